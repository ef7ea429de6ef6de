import Derived.Test.YtfhcekdfeiikbaaLebSize
namespace Go.Proofs.Ytfhcekdfeiikbaa
open Go.RowKit

/-- The numbers from i on, m of each, one behind the other. -/
def cat (us ns : List Int) (i : Nat) : Nat → List Int
  | 0 => []
  | m + 1 => encU 9 (us.getD i 0) ++ encS 9 (ns.getD i 0) ++ cat us ns (i + 1) m
theorem cat_snoc (us ns : List Int) : ∀ (m i : Nat), cat us ns i (m + 1) = cat us ns i m ++ encU 9 (us.getD (i + m) 0) ++ encS 9 (ns.getD (i + m) 0)
  | 0, i => by simp [cat]
  | m + 1, i => by
    rw [cat, cat_snoc us ns m (i + 1), cat, show i + 1 + m = i + (m + 1) from by omega]
    simp
theorem cat_len (us ns : List Int) : ∀ (m i : Nat), (cat us ns i m).length ≤ 20 * m
  | 0, i => by simp [cat]
  | m + 1, i => by
    have := cat_len us ns m (i + 1)
    have h1 := encU_len 9 (us.getD i 0)
    have h2 := encS_len 9 (ns.getD i 0)
    simp only [cat, List.length_append]
    omega

/-- The number that was put is told, whatever stands behind it. -/
theorem stop_shape : ∀ (ys rest : List Int) (m : Nat), Shape ys → ys.length ≤ m → Stop (ys ++ rest) m (ys.length - 1)
  | [x], rest, m, h, hm => ⟨by simp, by simp at hm ⊢; omega, fun i hi => by simp at hi, by simpa [List.getD] using h.2⟩
  | x :: y :: r, rest, m, h, hm => by
    have ih := stop_shape (y :: r) rest (m - 1) h.2.2 (by simp at hm ⊢; omega)
    refine ⟨by simp; omega, by simp at hm ⊢; omega, fun i hi => ?_, ?_⟩
    · cases i with
      | zero => simpa [List.getD] using h.1
      | succ i =>
        have := ih.more i (by simp at hi ⊢; omega)
        simpa [List.getD] using this
    · have := ih.last
      simpa [List.getD] using this
theorem U_enc (ao : Option Addr) (n cap : Nat) (u : Int) (rest : List Int) (w : World) (hu0 : 0 ≤ u) (hu1 : u ≤ 18446744073709551615) (hr : Rd .u8 w ao n cap (encU 9 u ++ rest)) :
    Calls Try.prog 15 #[.slice ao n cap, .int .i64 64] w fun e w' => e = .returned (.tuple #[.int .u64 u, .int .i64 (encU 9 u).length, .int .i64 0]) ∧ w = w' := by
  have hf := fits9 u hu0 hu1
  have hs := stop_shape (encU 9 u) rest 10 (encU_shape 9 u hu0 hf) (encU_len 9 u)
  have hne : (encU 9 u).length ≠ 0 := by have := encU_ne 9 u; simpa using this
  have e1 : (encU 9 u).length - 1 + 1 = (encU 9 u).length := by omega
  have e2 : (encU 9 u ++ rest).take ((encU 9 u).length - 1 + 1) = encU 9 u := by rw [e1]; simp
  have := U_ok ao n cap _ 64 w hr (by omega) (by omega) 10 _ (by decide) hs ⟨by rw [e2]; exact encU_can 9 u hu0 hf, by rw [e2, encU_val 9 u hu0 hf]; rw [show (2 : Int) ^ (64 : Int).toNat = 18446744073709551616 from by decide]; omega⟩
  rw [e2, encU_val 9 u hu0 hf] at this
  rw [show (((encU 9 u).length - 1 : Nat) : Int) + 1 = ((encU 9 u).length : Int) from by omega] at this
  exact this
theorem S_enc (ao : Option Addr) (n cap : Nat) (u : Int) (rest : List Int) (w : World) (hu0 : -9223372036854775808 ≤ u) (hu1 : u ≤ 9223372036854775807) (hr : Rd .u8 w ao n cap (encS 9 u ++ rest)) :
    Calls Try.prog 16 #[.slice ao n cap, .int .i64 64] w fun e w' => e = .returned (.tuple #[.int .i64 u, .int .i64 (encS 9 u).length, .int .i64 0]) ∧ w = w' := by
  have hf := fitsS9 u hu0 hu1
  have hs := stop_shape (encS 9 u) rest 10 (encS_shape 9 u hf) (encS_len 9 u)
  have hne : (encS 9 u).length ≠ 0 := by have := encS_ne 9 u; simpa using this
  have e1 : (encS 9 u).length - 1 + 1 = (encS 9 u).length := by omega
  have e2 : (encS 9 u ++ rest).take ((encS 9 u).length - 1 + 1) = encS 9 u := by rw [e1]; simp
  have := S_ok ao n cap _ 64 w hr (by omega) (by omega) 10 _ (by decide) hs ⟨by rw [e2]; exact encS_can 9 u hf, by rw [e2, encS_val 9 u hf]; rw [show (2 : Int) ^ ((64 : Int) - 1).toNat = 9223372036854775808 from by decide]; omega⟩
  rw [e2, encS_val 9 u hf] at this
  rw [show (((encS 9 u).length - 1 : Nat) : Int) + 1 = ((encS 9 u).length : Int) from by omega] at this
  exact this

set_option maxRecDepth 100000 in
set_option maxHeartbeats 1600000 in
theorem lebMany_walk (au an : Option Addr) (nu cu nn cn : Nat) (us ns : List Int) (w : World) (hru : Rd .u64 w au nu cu us) (hrn : Rd .i64 w an nn cn ns) :
    Calls Try.prog 6 #[.slice au nu cu, .slice an nn cn] w fun e w' => e = .returned (.bool true) ∧ Below w.heap.size w w' := by
  obtain ⟨N, hN⟩ : ∃ N, N = min (min nu nn) 20 := ⟨_, rfl⟩
  have hN1 : N ≤ nu := by omega
  have hN2 : N ≤ nn := by omega
  have hN3 : N ≤ 20 := by omega
  have HN := hid hN
  clear hN
  have hu63 := hru.cap63
  have hn63 := hrn.cap63
  have hul := hru.le
  have hnl := hrn.le
  go_enter Try.func6, Try.ntmps6
  go_wp2_with fail
  refine (begun_any w).mono ?_
  rintro e w0 ⟨rfl, b0⟩
  go_wp2_with fail
  go_loopw [6, 7, 8] (fun v n i wr => ∃ (k : Nat), n = .int .i64 k ∧ i = .int .i64 k ∧ k ≤ N ∧ IsRd .u8 (cat us ns 0 k) v wr ∧ Below w.heap.size w wr) (fun _ _ i _ => N - (intOf i).toNat)
  case atStart => exact ⟨0, rfl, rfl, Nat.zero_le _, ⟨none, 0, rfl, Rd.empty _ _⟩, b0⟩
  case round =>
    obtain ⟨k, rfl, rfl, hk, ⟨ao, cap, rfl, hr⟩, hb⟩ := hrel
    have hcl := cat_len us ns k 0
    by_cases hlt : k < N
    · obtain ⟨zs, hzs⟩ : ∃ zs, zs = cat us ns 0 k := ⟨_, rfl⟩
      rw [← hzs] at hr hcl ⊢
      have Hzs := hid hzs
      obtain ⟨bu, ou, rfl, hcu'⟩ := hru.at (by omega)
      obtain ⟨bn, on, rfl, hcn'⟩ := hrn.at (by omega)
      obtain ⟨u, hu⟩ : ∃ u, u = us.getD k 0 := ⟨_, rfl⟩
      obtain ⟨s, hs⟩ : ∃ s, s = ns.getD k 0 := ⟨_, rfl⟩
      have hcu := hcu' k (by omega)
      have hcn := hcn' k (by omega)
      rw [← hu] at hcu
      rw [← hs] at hcn
      have hbu0 := World.block_lt_of_cell? w _ hcu
      have hbn0 := World.block_lt_of_cell? w _ hcn
      dsimp only at hbu0 hbn0
      have hubd : 0 ≤ u ∧ u ≤ 18446744073709551615 := by
        have hm : us.getD k 0 ∈ us := by
          have : k < us.length := by rw [hru.len]; omega
          simp [List.getD, this]
        rw [← hu] at hm
        exact bounds_u64 (hru.wf u hm)
      have hsbd : -9223372036854775808 ≤ s ∧ s ≤ 9223372036854775807 := by
        have hm : ns.getD k 0 ∈ ns := by
          have : k < ns.length := by rw [hrn.len]; omega
          simp [List.getD, this]
        rw [← hs] at hm
        exact bounds_i64 (hrn.wf s hm)
      have hcu := (hb.cell hbu0).trans hcu
      have hcn := (hb.cell hbn0).trans hcn
      have hbu : bu < wr.heap.size := Nat.lt_of_lt_of_le hbu0 hb.size
      have hbn : bn < wr.heap.size := Nat.lt_of_lt_of_le hbn0 hb.size
      obtain ⟨hu0, hu1⟩ := hubd
      obtain ⟨hs0, hs1⟩ := hsbd
      have hul9 := encU_len 9 u
      have hsl9 := encS_len 9 s
      have Hu := hid hu
      have Hs := hid hs
      have Hrn := hid hrn
      have Hru := hid hru
      have Hcu := hid hcu'
      have Hcn := hid hcn'
      clear hu hs hrn hru hcu' hcn' hzs
      go_wp2_with fail
      refine wp_region_below (by kernel_rfl) [Is ?vM0, Is ?vM1, Is ?vM2, Is ?vM3, Is (.int .u64 u), IsRd .u8 (zs ++ encU 9 u), Is ?vM6, Is ?vM7, Is ?vM8, Is (.int .i64 s), IsRd .u8 (zs ++ encU 9 u ++ encS 9 s), IsRd .u8 (zs ++ encU 9 u ++ encS 9 s)] [0, 1, 2, 3, 4, 5, 6, 7, 8, 9, 10, 11] rfl (by kernel_rfl) rfl ?hopM ?hstM ?hendM
      case hopM =>
        refine ⟨⟨⟨_, _, _, _, _, _⟩, _, Is ?vM0, none, [], [(6, .slice ao zs.length cap)], rfl, rfl, rfl, rfl, rfl, ⟨⟨by kernel_rfl, rfl⟩, trivial⟩, ?_⟩, ?_⟩
        · intro a w1 hC e6
          refine Or.inl ⟨_, ?_, rfl⟩
          go_simp
          first | (go_bits; rfl) | rfl | (rw [if_pos (by omega)])
        refine ⟨⟨⟨_, _, _, _, _, _⟩, _, Is ?vM1, none, [], [(0, .slice (some ⟨bu, ou, none⟩) nu cu)], rfl, rfl, rfl, rfl, rfl, ⟨⟨by kernel_rfl, rfl⟩, trivial⟩, ?_⟩, ?_⟩
        · intro a w1 hC e0
          refine Or.inl ⟨_, ?_, rfl⟩
          go_simp
          first | (go_bits; rfl) | rfl | (rw [if_pos (by omega)])
        refine ⟨⟨⟨_, _, _, _, _, _⟩, _, Is ?vM2, none, [], [(8, .int .i64 k)], rfl, rfl, rfl, rfl, rfl, ⟨⟨by kernel_rfl, rfl⟩, trivial⟩, ?_⟩, ?_⟩
        · intro a w1 hC e8
          refine Or.inl ⟨_, ?_, rfl⟩
          go_simp
          first | (go_bits; rfl) | rfl | (rw [if_pos (by omega)])
        refine ⟨⟨⟨_, _, _, _, _, _⟩, _, Is ?vM3, none, [(some 36, Is ?vM1), (some 37, Is ?vM2)], [], rfl, rfl, rfl, rfl, rfl, trivial, ?_⟩, ?_⟩
        · intro a w1 hC  (h1 : a.tmps.getD 36 undef = _) (h2 : a.tmps.getD 37 undef = _)
          refine Or.inl ⟨_, ?_, rfl⟩
          go_simp
          first | (go_bits; rfl) | rfl | (rw [if_pos (by omega)])
        refine ⟨⟨⟨_, _, _, _, _, _⟩, _, Is (.int .u64 u), none, [(some 38, Is ?vM3)], [], rfl, rfl, rfl, rfl, rfl, trivial, ?_⟩, ?_⟩
        · intro a w1 hC  (h3 : a.tmps.getD 38 undef = _)
          refine Or.inl ⟨.int .u64 u, ?_, rfl⟩
          have hcw := (hC.cell hbu).trans hcu
          go_simp
        refine ⟨⟨⟨_, _, _, _, _, _⟩, _, IsRd .u8 (zs ++ encU 9 u), none, [(some 35, Is ?vM0), (some 39, Is (.int .u64 u))], [], rfl, rfl, rfl, rfl, rfl, trivial, ?_⟩, ?_⟩
        · intro a w1 hC  (h0 : a.tmps.getD 35 undef = _) (h4 : a.tmps.getD 39 undef = _)
          refine Or.inr (Or.inl ⟨11, #[.slice ao zs.length cap, .int .u64 u], ?_, ?_⟩)
          · go_simp
          · refine (putU_any ao zs.length cap zs u w1 (hr.below hC) (by omega) hu0 hu1).mono ?_
            rintro e w2 ⟨vv, rfl, hown, hbel⟩
            obtain ⟨ao1, cap1, rfl, hrd⟩ := hown.rd
            exact ⟨_, rfl, ⟨ao1, cap1, rfl, hrd⟩, hbel⟩
        refine ⟨⟨⟨_, _, _, _, _, _⟩, _, Is ?vM6, none, [], [(1, .slice (some ⟨bn, on, none⟩) nn cn)], rfl, rfl, rfl, rfl, rfl, ⟨⟨by kernel_rfl, rfl⟩, trivial⟩, ?_⟩, ?_⟩
        · intro a w1 hC e1
          refine Or.inl ⟨_, ?_, rfl⟩
          go_simp
          first | (go_bits; rfl) | rfl | (rw [if_pos (by omega)])
        refine ⟨⟨⟨_, _, _, _, _, _⟩, _, Is ?vM7, none, [], [(8, .int .i64 k)], rfl, rfl, rfl, rfl, rfl, ⟨⟨by kernel_rfl, rfl⟩, trivial⟩, ?_⟩, ?_⟩
        · intro a w1 hC e8
          refine Or.inl ⟨_, ?_, rfl⟩
          go_simp
          first | (go_bits; rfl) | rfl | (rw [if_pos (by omega)])
        refine ⟨⟨⟨_, _, _, _, _, _⟩, _, Is ?vM8, none, [(some 41, Is ?vM6), (some 42, Is ?vM7)], [], rfl, rfl, rfl, rfl, rfl, trivial, ?_⟩, ?_⟩
        · intro a w1 hC  (h6 : a.tmps.getD 41 undef = _) (h7 : a.tmps.getD 42 undef = _)
          refine Or.inl ⟨_, ?_, rfl⟩
          go_simp
          first | (go_bits; rfl) | rfl | (rw [if_pos (by omega)])
        refine ⟨⟨⟨_, _, _, _, _, _⟩, _, Is (.int .i64 s), none, [(some 43, Is ?vM8)], [], rfl, rfl, rfl, rfl, rfl, trivial, ?_⟩, ?_⟩
        · intro a w1 hC  (h8 : a.tmps.getD 43 undef = _)
          refine Or.inl ⟨.int .i64 s, ?_, rfl⟩
          have hcw := (hC.cell hbn).trans hcn
          go_simp
        refine ⟨⟨⟨_, _, _, _, _, _⟩, _, IsRd .u8 (zs ++ encU 9 u ++ encS 9 s), none, [(some 40, IsRd .u8 (zs ++ encU 9 u)), (some 44, Is (.int .i64 s)), (some 40, IsRd .u8 (zs ++ encU 9 u))], [], rfl, rfl, rfl, rfl, rfl, trivial, ?_⟩, ?_⟩
        · intro a w1 hC  h5 (h9 : a.tmps.getD 44 undef = _) _
          obtain ⟨ao1, cap1, e5, hrd⟩ := h5
          have e5 : a.tmps.getD 40 undef = _ := e5
          refine Or.inr (Or.inl ⟨12, #[.slice ao1 (zs ++ encU 9 u).length cap1, .int .i64 s], ?_, ?_⟩)
          · go_simp
          · refine (putS_any ao1 _ cap1 _ s w1 hrd (by simp; omega) hs0 hs1).mono ?_
            rintro e w2 ⟨vv, rfl, hown, hbel⟩
            obtain ⟨ao2, cap2, rfl, hrd2⟩ := hown.rd
            exact ⟨_, rfl, ⟨ao2, cap2, rfl, hrd2⟩, hbel⟩
        refine ⟨⟨⟨_, _, _, _, _, _⟩, _, IsRd .u8 (zs ++ encU 9 u ++ encS 9 s), none, [(some 45, IsRd .u8 (zs ++ encU 9 u ++ encS 9 s)), (some 45, IsRd .u8 (zs ++ encU 9 u ++ encS 9 s)), (some 35, Is ?vM0), (some 36, Is ?vM1), (some 37, Is ?vM2), (some 38, Is ?vM3), (some 39, Is (.int .u64 u)), (some 40, IsRd .u8 (zs ++ encU 9 u)), (some 41, Is ?vM6), (some 42, Is ?vM7), (some 43, Is ?vM8), (some 44, Is (.int .i64 s)), (some 45, IsRd .u8 (zs ++ encU 9 u ++ encS 9 s))], [], rfl, rfl, rfl, rfl, rfl, trivial, ?_⟩, ?_⟩
        · intro a w1 hC  h10 _ (h0 : a.tmps.getD 35 undef = _) (h1 : a.tmps.getD 36 undef = _) (h2 : a.tmps.getD 37 undef = _) (h3 : a.tmps.getD 38 undef = _) (h4 : a.tmps.getD 39 undef = _) h5 (h6 : a.tmps.getD 41 undef = _) (h7 : a.tmps.getD 42 undef = _) (h8 : a.tmps.getD 43 undef = _) (h9 : a.tmps.getD 44 undef = _) _
          obtain ⟨ao1, cap1, e10, hrd⟩ := h10
          have e10 : a.tmps.getD 45 undef = _ := e10
          exact Or.inl ⟨_, by go_simp, ao1, cap1, rfl, hrd⟩
        exact trivial
      case hstM => exact ⟨Stays.is _, Stays.is _, Stays.is _, Stays.is _, Stays.is _, Stays.rd _ _, Stays.is _, Stays.is _, Stays.is _, Stays.is _, Stays.rd _ _, Stays.rd _ _, trivial⟩
      case hendM =>
        intro w1 hC
        rintro _ rfl
        rintro _ rfl
        rintro _ rfl
        rintro _ rfl
        rintro _ rfl
        intro x5 h5
        rintro _ rfl
        rintro _ rfl
        rintro _ rfl
        rintro _ rfl
        intro x10 h10
        intro x11 h11
        simp only [Ends, Act.put, List.setIfInBounds_toArray, List.set_cons_succ, List.set_cons_zero]
        go_wp2_with fail
        go_roundw
        case rel =>
          refine ⟨k + 1, by go_num, by go_num, by omega, ?_, hb.trans (hC.mono hb.size)⟩
          rw [cat_snoc, Nat.zero_add, ← Hzs.out, ← Hu.out, ← Hs.out]
          exact h11
        case measure => simp [intOf]; omega
    · have HkN := hid (show k = N from by omega)
      have hrd0 : IsRd .u8 (cat us ns 0 (k - 0)) (.slice ao (cat us ns 0 k).length cap) wr := ⟨ao, cap, rfl, hr⟩
      generalize (cat us ns 0 k).length = L0 at hr hrd0 hcl ⊢
      have Hrd0 := hid hrd0
      have hk20 : k ≤ 20 := by omega
      rcases (show nu ≤ k ∨ (k < nu ∧ nn ≤ k) ∨ (k < nu ∧ k < nn ∧ 20 ≤ k) from by have := HN.out; omega) with e | ⟨e0, e⟩ | ⟨e0, e1, e⟩
      all_goals
        clear hr hrd0 hlt hcl
        go_wp2_with fail
        go_loop [6, 9] (fun v i => ∃ j : Nat, i = .int .i64 j ∧ j ≤ k ∧ IsRd .u8 (cat us ns j (k - j)) v wr) (fun _ i => k - (intOf i).toNat)
        case atStart => exact ⟨0, rfl, Nat.zero_le _, Hrd0.out⟩
        case round =>
          obtain ⟨j, rfl, hj, ⟨ao2, cap2, rfl, hr2⟩⟩ := hrel
          by_cases hjk : j < k
          · obtain ⟨u, hu⟩ : ∃ u, u = us.getD j 0 := ⟨_, rfl⟩
            obtain ⟨s, hs⟩ : ∃ s, s = ns.getD j 0 := ⟨_, rfl⟩
            obtain ⟨bu, ou, rfl, hcu'⟩ := hru.at (by omega)
            obtain ⟨bn, on, rfl, hcn'⟩ := hrn.at (by omega)
            have hcu := hcu' j (by omega)
            have hcn := hcn' j (by omega)
            rw [← hu] at hcu
            rw [← hs] at hcn
            have hbu0 := World.block_lt_of_cell? w _ hcu
            have hbn0 := World.block_lt_of_cell? w _ hcn
            dsimp only at hbu0 hbn0
            have hcu := (hb.cell hbu0).trans hcu
            have hcn := (hb.cell hbn0).trans hcn
            have hubd : 0 ≤ u ∧ u ≤ 18446744073709551615 := by
              have hm : us.getD j 0 ∈ us := by
                have : j < us.length := by rw [hru.len]; omega
                simp [List.getD, this]
              rw [← hu] at hm
              exact bounds_u64 (hru.wf u hm)
            have hsbd : -9223372036854775808 ≤ s ∧ s ≤ 9223372036854775807 := by
              have hm : ns.getD j 0 ∈ ns := by
                have : j < ns.length := by rw [hrn.len]; omega
                simp [List.getD, this]
              rw [← hs] at hm
              exact bounds_i64 (hrn.wf s hm)
            obtain ⟨zs, hzs⟩ : ∃ zs, zs = cat us ns (j + 1) (k - (j + 1)) := ⟨_, rfl⟩
            have hcat : cat us ns j (k - j) = encU 9 u ++ (encS 9 s ++ zs) := by
              rw [show k - j = k - (j + 1) + 1 from by omega, cat, ← hu, ← hs, ← hzs, List.append_assoc]
            rw [hcat] at hr2 ⊢
            have hlenr := hr2.len
            obtain ⟨n, hn⟩ : ∃ n, n = (encU 9 u ++ (encS 9 s ++ zs)).length := ⟨_, rfl⟩
            rw [← hn] at hr2 ⊢
            have HU := hid (U_enc ao2 n cap2 u _ wr hubd.1 hubd.2 hr2)
            obtain ⟨lu, hlu⟩ : ∃ lu, lu = (encU 9 u).length := ⟨_, rfl⟩
            obtain ⟨ls, hls⟩ : ∃ ls, ls = (encS 9 s).length := ⟨_, rfl⟩
            rw [← hlu] at HU
            have hl1 : 1 ≤ lu := by have := encU_ne 9 u; cases h : encU 9 u <;> simp_all
            have hl2 : 1 ≤ ls := by have := encS_ne 9 s; cases h : encS 9 s <;> simp_all
            have hnsum : n = lu + (ls + zs.length) := by rw [hn, hlu, hls]; simp
            have hle2 := hr2.le
            have hc2 := hr2.cap63
            obtain ⟨b2, o2, rfl, _⟩ := hr2.at (by omega)
            have hr3 := hr2.from (i := lu) (by omega)
            rw [hlu, List.drop_left, ← hlu] at hr3
            have HS := hid (S_enc _ (n - lu) (cap2 - lu) s _ wr hsbd.1 hsbd.2 hr3)
            rw [← hls] at HS
            have hr4 := hr3.from (i := ls) (by omega)
            rw [hls, List.drop_left, ← hls] at hr4
            have hlz : zs.length = n - lu - ls := by omega
            have hcap1 : ¬ cap2 = lu := by omega
            have hlun : lu ≤ n := by omega
            have hlsn : ls ≤ n - lu := by omega
            have Hr4 := hid hr4
            have Hlz := hid hlz
            have Hzs := hid hzs
            have Hru := hid hru
            have Hrn := hid hrn
            have Hnsum := hid hnsum
            clear hu hs hcu' hcn' hzs hcat hr2 hr3 hr4 hn hlu hls hlenr hru hrn hlz hnsum
            by_cases hcap2 : cap2 - lu = ls
            · rw [hcap2] at HS
              go_wp2_with (first | (go_at_call 15; refine HU.out.mono ?_; rintro e w' ⟨rfl, rfl⟩) | (go_at_call 16; refine HS.out.mono ?_; rintro e w' ⟨rfl, rfl⟩))
              go_round
              case rel =>
                refine ⟨j + 1, by go_num, by omega, ?_⟩
                have h0 : n - lu - ls = 0 := by omega
                have hz : zs = [] := List.eq_nil_of_length_eq_zero (by rw [Hlz.out]; exact h0)
                rw [h0, ← Hzs.out, hz]
                exact ⟨_, 0, rfl, Rd.nought⟩
              case measure => simp [intOf]; omega
            · go_wp2_with (first | (go_at_call 15; refine HU.out.mono ?_; rintro e w' ⟨rfl, rfl⟩) | (go_at_call 16; refine HS.out.mono ?_; rintro e w' ⟨rfl, rfl⟩))
              go_round
              case rel =>
                refine ⟨j + 1, by go_num, by omega, ?_⟩
                rw [← Hzs.out]
                refine ⟨_, _, by rw [Hlz.out], ?_⟩
                rw [Hlz.out]
                exact Hr4.out
              case measure => simp [intOf]; omega
          · have hj0 : k - j = 0 := by omega
            rw [hj0, cat, List.length_nil]
            clear hr2 hru hrn
            go_wp2
            go_ret
            exact ⟨by simp, hb⟩
end Go.Proofs.Ytfhcekdfeiikbaa
