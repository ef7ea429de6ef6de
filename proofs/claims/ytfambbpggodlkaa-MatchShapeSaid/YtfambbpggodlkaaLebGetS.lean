import Derived.Test.YtfambbpggodlkaaLebGetU
namespace Go.Proofs.Ytfambbpggodlkaa
open Go.RowKit

theorem GetS_range (ao : Option Addr) (n cap : Nat) (bits : Int) (w : World) (h : bits < 1 ∨ 64 < bits) :
    Calls Try.prog 73 #[.slice ao n cap, .int .i64 bits] w fun e w' => e = .returned (.tuple #[.int .i64 0, .int .i64 0, .int .i64 3]) ∧ w = w' := by
  by_cases h1 : bits < 1
  · clear h
    go_enter Try.func73, Try.ntmps73
    go_wp2_with fail
    go_ret3
    exact ⟨rfl, rfl⟩
  · have h2 : 64 < bits := by omega
    clear h
    go_enter Try.func73, Try.ntmps73
    go_wp2_with fail
    go_ret3
    exact ⟨rfl, rfl⟩

theorem encS_bs (f : Nat) (u : Int) (hf : fitsS f u) : ∀ x ∈ encS f u, 0 ≤ x ∧ x ≤ 255 := by
  induction f generalizing u with
  | zero => intro x hx; simp [encS] at hx; omega
  | succ f ih =>
    intro x hx
    by_cases hc : u < -64 ∨ 64 ≤ u
    · rw [encS_big hc] at hx
      rcases List.mem_cons.1 hx with rfl | hx
      · omega
      · exact ih (u / 128) (by simp only [fitsS] at hf; exact hf.resolve_left (by omega)) x hx
    · rw [encS_small hc] at hx
      simp at hx
      omega
/-- The text of the number that is told is the text that was read just if that one is in its shortest form and the number is in range. -/
theorem str_iffS {xs : List Int} {m k : Nat} (hs : Stop xs m k) (hb : Bs xs) (hk : k ≤ 9) {v : Int} (h0 : -9223372036854775808 ≤ v) (h1 : v ≤ 9223372036854775807) : strOfNums (encS 9 v) = strOfNums (xs.take (k + 1)) ↔ canS (xs.take (k + 1)) ∧ v = sval (xs.take (k + 1)) := by
  have hf := fitsS9 v h0 h1
  refine ⟨fun h => ?_, fun ⟨h, e⟩ => ?_⟩
  · have := strOfNums_inj (encS_bs 9 _ hf) (fun y hy => hb y (List.mem_of_mem_take hy)) h
    rw [← this]
    exact ⟨encS_can 9 _ hf, (encS_val 9 _ hf).symm⟩
  · rw [e, encS_of _ 9 (hs.shape hb) h (by simp; omega)]
theorem wrap64_bd (n : Int) : -9223372036854775808 ≤ wrap64 n ∧ wrap64 n ≤ 9223372036854775807 := by unfold wrap64; omega
theorem wrap64_id (n : Int) (h0 : -9223372036854775808 ≤ n) (h1 : n ≤ 9223372036854775807) : wrap64 n = n := by unfold wrap64; omega
theorem neg_in (p : Int) (h0 : 0 < p) (h1 : p ≤ 4611686018427387904) : IntKind.i64.wrap (-p) = -p ∧ wrap64 (-p) = -p := ⟨IntWalk.i64_in _ (by omega), wrap64_id _ (by omega) (by omega)⟩
theorem three_way (v p : Int) : v < -p ∨ (-p ≤ v ∧ p ≤ v) ∨ (-p ≤ v ∧ v < p) := by omega
theorem toNat_pred (b : Int) : b.toNat - 1 = (b - 1).toNat := by omega
theorem wrap64_step (s x : Int) : wrap64 (wrap64 (wrap64 s * 128) + x) = wrap64 (x + 128 * s) := by unfold wrap64; omega
theorem sval_step (x : Int) (r : List Int) (h : r ≠ []) : sval (x :: r) = x % 128 + 128 * sval r := by
  cases r with
  | nil => exact absurd rfl h
  | cons y r => rfl

section
variable (ao : Option Addr) (n cap : Nat) (xs : List Int) (bits : Int) (w : World) (hr : Rd .u8 w ao n cap xs) (h1 : 1 ≤ bits) (h2 : bits ≤ 64) (m k : Nat) (hm : (m : Int) = (bits + 6) / 7)
include hr h1 h2 hm

theorem GetS_form (hs : m ≤ xs.length ∧ ∀ i, i < m → 128 ≤ xs.getD i 0) :
    Calls Try.prog 73 #[.slice ao n cap, .int .i64 bits] w fun e w' => e = .returned (.tuple #[.int .i64 0, .int .i64 0, .int .i64 1]) ∧ w = w' := by
  have H := hid (whole_form ao n cap xs bits w hr h1 h2 m hm hs)
  clear hs hm
  go_enter Try.func73, Try.ntmps73
  go_wp2_with (go_at_call 79; refine H.out.mono ?_; rintro e w' ⟨rfl, rfl⟩)
  go_ret3
  exact ⟨rfl, rfl⟩
theorem GetS_more (hs : xs.length < m ∧ ∀ i, i < xs.length → 128 ≤ xs.getD i 0) :
    Calls Try.prog 73 #[.slice ao n cap, .int .i64 bits] w fun e w' => e = .returned (.tuple #[.int .i64 0, .int .i64 0, .int .i64 2]) ∧ w = w' := by
  have H := hid (whole_more ao n cap xs bits w hr h1 h2 m hm hs)
  clear hs hm
  go_enter Try.func73, Try.ntmps73
  go_wp2_with (go_at_call 79; refine H.out.mono ?_; rintro e w' ⟨rfl, rfl⟩)
  go_ret3
  exact ⟨rfl, rfl⟩

set_option maxRecDepth 100000 in
set_option maxHeartbeats 1600000 in
theorem GetS_lo (hs : Stop xs m k) (hx0 : xs.getD k 0 < 64) :
    Calls Try.prog 73 #[.slice ao n cap, .int .i64 bits] w fun e w' => (goodS xs bits k → e = .returned (.tuple #[.int .i64 (sval (xs.take (k + 1))), .int .i64 (k + 1), .int .i64 0])) ∧ (¬ goodS xs bits k → e = .returned (.tuple #[.int .i64 0, .int .i64 0, .int .i64 1])) ∧ Below w.heap.size w w' := by
  have hb : Bs xs := fun x hx => bounds_u8 (hr.wf x hx)
  have H := hid (whole_stop ao n cap xs bits w hr h1 h2 m hm k hs)
  have hkm := hs.most
  have hkn := hs.lt
  have hlen := hr.len
  have hkn' : k < n := by omega
  have hcap : k + 1 ≤ cap := by have := hr.le; omega
  have hk9 : k ≤ 9 := by omega
  obtain ⟨b, off, rfl, hc⟩ := hr.at (by omega)
  have Hc := hid hc
  have Hs := hid hs
  have hck := hc k (by omega)
  obtain ⟨x, hxk⟩ : ∃ x, x = xs.getD k 0 := ⟨_, rfl⟩
  have hbk := hb.getD k
  have hx128 : x < 128 := by rw [hxk]; exact hs.last
  rw [← hxk] at hck hbk hx0
  have htk : (xs.take (k + 1)).drop k = [x] := by
    rw [take_low xs k hkn, ← hxk, show k = (low xs k).length from (low_length xs k hkn).symm, List.drop_left' (by rw [low_length xs (low xs k).length (by rw [low_length xs k hkn]; exact hkn)])]
  have Htk := hid htk
  have Hxk := hid hxk
  clear hc hlen hs hm htk hxk
  go_enter Try.func73, Try.ntmps73
  go_wp2_with (go_at_call 79; refine H.out.mono ?_; rintro e w' ⟨rfl, rfl⟩)
  go_loop [9, 10] (fun q i => ∃ (j : Nat) (v : Int), i = .int .i64 ((j : Int) - 1) ∧ q = .int .i64 v ∧ j ≤ k ∧ -9223372036854775808 ≤ v ∧ v ≤ 9223372036854775807 ∧
      Hid (v = wrap64 (sval ((xs.take (k + 1)).drop j)))) (fun _ i => (intOf i + 1).toNat)
  case atStart =>
    refine ⟨k, _, by go_num, rfl, Nat.le_refl _, by omega, by omega, ?_⟩
    show _ = _
    rw [Htk.out]
    simp only [sval, ext]
    first | rw [if_pos (by omega), wrap64_id _ (by omega) (by omega)] | (rw [if_neg (by omega), wrap64_id _ (by omega) (by omega)])
  case round =>
    obtain ⟨j, v, rfl, rfl, hj, hv0, hv1, HV⟩ := hrel
    cases j with
    | zero =>
      have hp63 := hid (show (2 : Int) ^ (bits - 1).toNat ≤ 9223372036854775808 from by
        have := two_pow_le (show (bits - 1).toNat ≤ 63 by omega)
        rw [show (2 : Int) ^ 63 = 9223372036854775808 from by decide] at this
        exact this)
      have hpos := hid (show (0 : Int) < 2 ^ (bits - 1).toNat from Int.pow_pos (by decide))
      have hv : v = wrap64 (sval (xs.take (k + 1))) := by simpa using HV.out
      have hgv : goodS xs bits k → v = sval (xs.take (k + 1)) := by
        rintro ⟨_, g2, g3⟩
        have := hp63.out
        rw [hv]
        exact wrap64_id _ (by omega) (by omega)
      have Hv := hid hgv
      clear hgv
      have Hv2 := hid hv
      clear hv
      have hiff0 := str_iffS Hs.out hb (by omega) hv0 hv1
      obtain ⟨p, hpp⟩ : ∃ p : Int, p = 2 ^ (bits - 1).toNat := ⟨_, rfl⟩
      have hwb : IntKind.u64.wrap (bits - 1) = bits - 1 := IntWalk.u64_in _ (by omega)
      have hq0 : 0 ≤ bits - 1 := by omega
      have hp0 : 0 < p := by rw [hpp]; exact hpos.out
      have hp63' : p ≤ 9223372036854775808 := by rw [hpp]; exact hp63.out
      have hgd : goodS xs bits k ↔ (canS (xs.take (k + 1)) ∧ -p ≤ sval (xs.take (k + 1)) ∧ sval (xs.take (k + 1)) < p) := by rw [hpp]; exact Iff.rfl
      have Hgd := hid hgd
      have Hiff0 := hid hiff0
      clear hgd hiff0
      by_cases hb64 : bits < 64
      · have hple : p ≤ 4611686018427387904 := by
          rw [hpp]
          have := two_pow_le (show (bits - 1).toNat ≤ 62 by omega)
          rw [show (2 : Int) ^ 62 = 4611686018427387904 from by decide] at this
          exact this
        have hs1 : IntKind.i64.wrap (2 ^ (bits.toNat - 1)) = p := by rw [toNat_pred, ← hpp]; exact IntWalk.i64_in p (by omega)
        have hs2 : wrap64 (2 ^ (bits.toNat - 1)) = p := by rw [toNat_pred, ← hpp]; exact wrap64_id p (by omega) (by omega)
        have hs3' := (neg_in p hp0 hple).1
        have hs3 : IntKind.i64.wrap (-2 ^ (bits.toNat - 1)) = -p := by rw [toNat_pred, ← hpp]; exact hs3'
        have hs4' := (neg_in p hp0 hple).2
        have hs4 : wrap64 (-2 ^ (bits.toNat - 1)) = -p := by rw [toNat_pred, ← hpp]; exact hs4'
        clear hs3' hs4'
        have hd1 : decide (bits < 64) = true := decide_eq_true hb64
        clear hpp
        rcases three_way v p with hlo | ⟨hlo, hhi⟩ | ⟨hlo, hhi⟩
        · have hng : ¬ goodS xs bits k := fun h => by have h1 := Hv.out h; have h2 := (Hgd.out.1 h).2; rw [← h1] at h2; first | exact absurd h2.1 (Int.not_le.2 hlo) | exact absurd h2.2 (Int.not_lt.2 hhi)
          go_wp2_with fail
          go_quiet (fail)
          go_wp2_with fail
          go_ret3
          exact ⟨fun h => absurd h hng, fun _ => rfl, ⟨rfl, rfl, rfl, Nat.le_refl _, fun _ _ => rfl⟩⟩
        · have hng : ¬ goodS xs bits k := fun h => by have h1 := Hv.out h; have h2 := (Hgd.out.1 h).2; rw [← h1] at h2; first | exact absurd h2.1 (Int.not_le.2 hlo) | exact absurd h2.2 (Int.not_lt.2 hhi)
          have hd2 : decide (v < -p) = false := decide_eq_false (Int.not_lt.2 hlo)
          go_wp2_with fail
          go_quiet (fail)
          go_wp2_with fail
          go_ret3
          exact ⟨fun h => absurd h hng, fun _ => rfl, ⟨rfl, rfl, rfl, Nat.le_refl _, fun _ _ => rfl⟩⟩
        · have hiff : strOfNums (encS 9 v) = strOfNums (xs.take (k + 1)) ↔ goodS xs bits k := by
            rw [Hiff0.out, Hgd.out]
            exact ⟨fun ⟨h, e⟩ => ⟨h, by rw [← e]; exact ⟨hlo, hhi⟩⟩, fun h => ⟨h.1, Hv.out (Hgd.out.2 h)⟩⟩
          obtain ⟨s0, hs0⟩ : ∃ s0, s0 = strOfNums (xs.take (k + 1)) := ⟨_, rfl⟩
          obtain ⟨s1, hs1'⟩ : ∃ s1, s1 = strOfNums (encS 9 v) := ⟨_, rfl⟩
          rw [← hs0, ← hs1'] at hiff
          have Hs0 := hid hs0
          have Hs1 := hid hs1'
          have Hr := hid hr
          have Hiff := hid hiff
          have hd2 : decide (v < -p) = false := decide_eq_false (Int.not_lt.2 hlo)
          have hd3 : decide (p ≤ v) = false := decide_eq_false (Int.not_le.2 hhi)
          clear hs0 hs1' hr hiff
          go_wp2_with fail
          refine wp_region_below (by kernel_rfl) [Is ?vC0, Is ?vC1, Is ?vC2, Is ?vC3, Is ?vC4, Is ?vC5, Is ?vC6, Is ?vC7, Is ?vC8, Is ?vC9, Is ?vC10, Is ?vC11, Is ?vC12, Is ?vC13, Is ?vC14, Is ?vC15, Is ?vC16, Is ?vC17, Is ?vC18, Is ?vC19, IsRd .u8 (encS 9 v), Is (.string s1), Is ?vC22, Is ?vC23, Is ?vC24, Is (.string s0), Is ?vC26, Is ?vC27] [0, 1, 2, 3, 4, 5, 6, 7, 8, 9, 10, 11, 12, 13, 14, 15, 16, 17, 18, 19, 20, 21, 22, 23, 24, 25, 26, 27] rfl (by kernel_rfl) rfl ?hopC ?hstC ?hendC
          case hopC =>
            refine ⟨⟨⟨_, _, _, _, _, _⟩, _, Is ?vC0, none, [], [(1, .int .i64 bits)], rfl, rfl, rfl, rfl, rfl, ⟨⟨by kernel_rfl, rfl⟩, trivial⟩, ?_⟩, ?_⟩
            · intro a w1 hC e1
              refine Or.inl ⟨_, ?_, rfl⟩
              go_simp
              first | (go_bits; rfl) | rfl | (rw [if_pos (by omega)])
            refine ⟨⟨⟨_, _, _, _, _, _⟩, _, Is ?vC1, none, [(some 52, Is ?vC0)], [], rfl, rfl, rfl, rfl, rfl, trivial, ?_⟩, ?_⟩
            · intro a w1 hC  (h0 : a.tmps.getD 52 undef = _)
              refine Or.inl ⟨_, ?_, rfl⟩
              go_simp
              first | (go_bits; rfl) | rfl | (rw [if_pos (by omega)])
            refine ⟨⟨⟨_, _, _, _, _, _⟩, _, Is ?vC2, none, [(some 53, Is ?vC1)], [], rfl, rfl, rfl, rfl, rfl, trivial, ?_⟩, ?_⟩
            · intro a w1 hC  (h1 : a.tmps.getD 53 undef = _)
              refine Or.inl ⟨_, ?_, rfl⟩
              go_simp
              first | (go_bits; rfl) | rfl | (rw [if_pos (by omega)])
            refine ⟨⟨⟨_, _, _, _, _, _⟩, _, Is ?vC3, (some (some 54, true)), [(some 54, Is ?vC2)], [(9, .int .i64 v)], rfl, rfl, rfl, rfl, rfl, ⟨⟨by kernel_rfl, rfl⟩, trivial⟩, ?_⟩, ?_⟩
            · intro a w1 hC e9 (h2 : a.tmps.getD 54 undef = _)
              refine Or.inl ⟨h2, ?_⟩
              refine Or.inl ⟨_, ?_, rfl⟩
              go_simp
              first | (go_bits; rfl) | rfl | (rw [if_pos (by omega)])
            refine ⟨⟨⟨_, _, _, _, _, _⟩, _, Is ?vC4, (some (some 54, true)), [(some 54, Is ?vC2)], [(1, .int .i64 bits)], rfl, rfl, rfl, rfl, rfl, ⟨⟨by kernel_rfl, rfl⟩, trivial⟩, ?_⟩, ?_⟩
            · intro a w1 hC e1 (h2 : a.tmps.getD 54 undef = _)
              refine Or.inl ⟨h2, ?_⟩
              refine Or.inl ⟨_, ?_, rfl⟩
              go_simp
              first | (go_bits; rfl) | rfl | (rw [if_pos (by omega)])
            refine ⟨⟨⟨_, _, _, _, _, _⟩, _, Is ?vC5, (some (some 54, true)), [(some 56, Is ?vC4), (some 54, Is ?vC2)], [], rfl, rfl, rfl, rfl, rfl, trivial, ?_⟩, ?_⟩
            · intro a w1 hC  (h4 : a.tmps.getD 56 undef = _) (h2 : a.tmps.getD 54 undef = _)
              refine Or.inl ⟨h2, ?_⟩
              refine Or.inl ⟨_, ?_, rfl⟩
              go_simp
              first | (go_bits; rfl) | rfl | (rw [if_pos (by omega)])
            refine ⟨⟨⟨_, _, _, _, _, _⟩, _, Is ?vC6, (some (some 54, true)), [(some 57, Is ?vC5), (some 54, Is ?vC2)], [], rfl, rfl, rfl, rfl, rfl, trivial, ?_⟩, ?_⟩
            · intro a w1 hC  (h5 : a.tmps.getD 57 undef = _) (h2 : a.tmps.getD 54 undef = _)
              refine Or.inl ⟨h2, ?_⟩
              refine Or.inl ⟨_, ?_, rfl⟩
              go_simp
              first | (go_bits; rfl) | rfl | (rw [if_pos (by omega)])
            refine ⟨⟨⟨_, _, _, _, _, _⟩, _, Is ?vC7, (some (some 54, true)), [(some 58, Is ?vC6), (some 54, Is ?vC2)], [], rfl, rfl, rfl, rfl, rfl, trivial, ?_⟩, ?_⟩
            · intro a w1 hC  (h6 : a.tmps.getD 58 undef = _) (h2 : a.tmps.getD 54 undef = _)
              refine Or.inl ⟨h2, ?_⟩
              refine Or.inl ⟨_, ?_, rfl⟩
              go_simp
              first | (go_bits; rfl) | rfl | (rw [if_pos (by omega)])
            refine ⟨⟨⟨_, _, _, _, _, _⟩, _, Is ?vC8, (some (some 54, true)), [(some 55, Is ?vC3), (some 59, Is ?vC7), (some 54, Is ?vC2)], [], rfl, rfl, rfl, rfl, rfl, trivial, ?_⟩, ?_⟩
            · intro a w1 hC  (h3 : a.tmps.getD 55 undef = _) (h7 : a.tmps.getD 59 undef = _) (h2 : a.tmps.getD 54 undef = _)
              refine Or.inl ⟨h2, ?_⟩
              refine Or.inl ⟨_, ?_, rfl⟩
              go_simp
              first | (go_bits; rfl) | rfl | (rw [if_pos (by omega)])
            refine ⟨⟨⟨_, _, _, _, _, _⟩, _, Is ?vC9, (some (some 54, true)), [(some 60, Is ?vC8), (some 54, Is ?vC2), (some 54, Is ?vC2)], [], rfl, rfl, rfl, rfl, rfl, trivial, ?_⟩, ?_⟩
            · intro a w1 hC  (h8 : a.tmps.getD 60 undef = _) (h2 : a.tmps.getD 54 undef = _) _
              refine Or.inl ⟨h2, ?_⟩
              refine Or.inl ⟨_, ?_, rfl⟩
              go_simp
              first | (go_bits; rfl) | rfl | (rw [if_pos (by omega)])
            refine ⟨⟨⟨_, _, _, _, _, _⟩, _, Is ?vC10, (some (some 61, false)), [(some 61, Is ?vC9)], [(9, .int .i64 v)], rfl, rfl, rfl, rfl, rfl, ⟨⟨by kernel_rfl, rfl⟩, trivial⟩, ?_⟩, ?_⟩
            · intro a w1 hC e9 (h9 : a.tmps.getD 61 undef = _)
              refine Or.inl ⟨h9, ?_⟩
              refine Or.inl ⟨_, ?_, rfl⟩
              go_simp
              first | (go_bits; rfl) | rfl | (rw [if_pos (by omega)])
            refine ⟨⟨⟨_, _, _, _, _, _⟩, _, Is ?vC11, (some (some 61, false)), [(some 61, Is ?vC9)], [(1, .int .i64 bits)], rfl, rfl, rfl, rfl, rfl, ⟨⟨by kernel_rfl, rfl⟩, trivial⟩, ?_⟩, ?_⟩
            · intro a w1 hC e1 (h9 : a.tmps.getD 61 undef = _)
              refine Or.inl ⟨h9, ?_⟩
              refine Or.inl ⟨_, ?_, rfl⟩
              go_simp
              first | (go_bits; rfl) | rfl | (rw [if_pos (by omega)])
            refine ⟨⟨⟨_, _, _, _, _, _⟩, _, Is ?vC12, (some (some 61, false)), [(some 63, Is ?vC11), (some 61, Is ?vC9)], [], rfl, rfl, rfl, rfl, rfl, trivial, ?_⟩, ?_⟩
            · intro a w1 hC  (h11 : a.tmps.getD 63 undef = _) (h9 : a.tmps.getD 61 undef = _)
              refine Or.inl ⟨h9, ?_⟩
              refine Or.inl ⟨_, ?_, rfl⟩
              go_simp
              first | (go_bits; rfl) | rfl | (rw [if_pos (by omega)])
            refine ⟨⟨⟨_, _, _, _, _, _⟩, _, Is ?vC13, (some (some 61, false)), [(some 64, Is ?vC12), (some 61, Is ?vC9)], [], rfl, rfl, rfl, rfl, rfl, trivial, ?_⟩, ?_⟩
            · intro a w1 hC  (h12 : a.tmps.getD 64 undef = _) (h9 : a.tmps.getD 61 undef = _)
              refine Or.inl ⟨h9, ?_⟩
              refine Or.inl ⟨_, ?_, rfl⟩
              go_simp
              first | (go_bits; rfl) | rfl | (rw [if_pos (by omega)])
            refine ⟨⟨⟨_, _, _, _, _, _⟩, _, Is ?vC14, (some (some 61, false)), [(some 65, Is ?vC13), (some 61, Is ?vC9)], [], rfl, rfl, rfl, rfl, rfl, trivial, ?_⟩, ?_⟩
            · intro a w1 hC  (h13 : a.tmps.getD 65 undef = _) (h9 : a.tmps.getD 61 undef = _)
              refine Or.inl ⟨h9, ?_⟩
              refine Or.inl ⟨_, ?_, rfl⟩
              go_simp
              first | (go_bits; rfl) | rfl | (rw [if_pos (by omega)])
            refine ⟨⟨⟨_, _, _, _, _, _⟩, _, Is ?vC15, (some (some 61, false)), [(some 62, Is ?vC10), (some 66, Is ?vC14), (some 61, Is ?vC9)], [], rfl, rfl, rfl, rfl, rfl, trivial, ?_⟩, ?_⟩
            · intro a w1 hC  (h10 : a.tmps.getD 62 undef = _) (h14 : a.tmps.getD 66 undef = _) (h9 : a.tmps.getD 61 undef = _)
              refine Or.inl ⟨h9, ?_⟩
              refine Or.inl ⟨_, ?_, rfl⟩
              go_simp
              first | (go_bits; rfl) | rfl | (rw [if_pos (by omega)])
            refine ⟨⟨⟨_, _, _, _, _, _⟩, _, Is ?vC16, (some (some 54, true)), [(some 61, Is ?vC9), (some 67, Is ?vC15), (some 54, Is ?vC2)], [], rfl, rfl, rfl, rfl, rfl, trivial, ?_⟩, ?_⟩
            · intro a w1 hC  (h9 : a.tmps.getD 61 undef = _) (h15 : a.tmps.getD 67 undef = _) (h2 : a.tmps.getD 54 undef = _)
              refine Or.inl ⟨h2, ?_⟩
              refine Or.inl ⟨_, ?_, rfl⟩
              go_simp
              first | (go_bits; rfl) | rfl | (rw [if_pos (by omega)])
            refine ⟨⟨⟨_, _, _, _, _, _⟩, _, Is ?vC17, none, [(some 54, Is ?vC2), (some 68, Is ?vC16)], [], rfl, rfl, rfl, rfl, rfl, trivial, ?_⟩, ?_⟩
            · intro a w1 hC  (h2 : a.tmps.getD 54 undef = _) (h16 : a.tmps.getD 68 undef = _)
              refine Or.inl ⟨_, ?_, rfl⟩
              go_simp
              first | (go_bits; rfl) | rfl | (rw [if_pos (by omega)])
            refine ⟨⟨⟨_, _, _, _, _, _⟩, _, Is ?vC18, none, [(some 69, Is ?vC17), (some 61, Is ?vC9)], [], rfl, rfl, rfl, rfl, rfl, trivial, ?_⟩, ?_⟩
            · intro a w1 hC  (h17 : a.tmps.getD 69 undef = _) (h9 : a.tmps.getD 61 undef = _)
              refine Or.inl ⟨_, ?_, rfl⟩
              go_simp
              first | (go_bits; rfl) | rfl | (rw [if_pos (by omega)])
            refine ⟨⟨⟨_, _, _, _, _, _⟩, _, Is ?vC19, (some (some 70, false)), [(some 70, Is ?vC18)], [(9, .int .i64 v)], rfl, rfl, rfl, rfl, rfl, ⟨⟨by kernel_rfl, rfl⟩, trivial⟩, ?_⟩, ?_⟩
            · intro a w1 hC e9 (h18 : a.tmps.getD 70 undef = _)
              refine Or.inl ⟨h18, ?_⟩
              refine Or.inl ⟨_, ?_, rfl⟩
              go_simp
              first | (go_bits; rfl) | rfl | (rw [if_pos (by omega)])
            refine ⟨⟨⟨_, _, _, _, _, _⟩, _, IsRd .u8 (encS 9 v), (some (some 70, false)), [(some 71, Is ?vC19), (some 70, Is ?vC18), (some 70, Is ?vC18)], [], rfl, rfl, rfl, rfl, rfl, trivial, ?_⟩, ?_⟩
            · intro a w1 hC  (h19 : a.tmps.getD 71 undef = _) (h18 : a.tmps.getD 70 undef = _) _
              refine Or.inl ⟨h18, ?_⟩
              refine Or.inr (Or.inl ⟨43, #[.int .i64 v], ?_, ?_⟩)
              · go_simp
              · refine (refS_any v w1 hv0 hv1).mono ?_
                rintro e w2 ⟨vv, rfl, hown, hbel⟩
                obtain ⟨ao1, cap1, rfl, hrd⟩ := hown.rd
                exact ⟨_, rfl, ⟨ao1, cap1, rfl, hrd⟩, hbel⟩
            refine ⟨⟨⟨_, _, _, _, _, _⟩, _, Is (.string s1), (some (some 70, false)), [(some 72, IsRd .u8 (encS 9 v)), (some 70, Is ?vC18)], [], rfl, rfl, rfl, rfl, rfl, trivial, ?_⟩, ?_⟩
            · intro a w1 hC  h20 (h18 : a.tmps.getD 70 undef = _)
              refine Or.inl ⟨h18, ?_⟩
              obtain ⟨ao1, cap1, e20, hrd⟩ := h20
              refine Or.inl ⟨.string s1, ?_, rfl⟩
              have e20 : a.tmps.getD 72 undef = _ := e20
              have c := conv_str (P := Try.prog) hrd 41 9 5 Try.underlying41 Try.underlying5 Try.underlying9
              rw [← Hs1.out] at c
              go_simp
            refine ⟨⟨⟨_, _, _, _, _, _⟩, _, Is ?vC22, (some (some 70, false)), [(some 70, Is ?vC18)], [(0, .slice (some ⟨b, off, none⟩) n cap)], rfl, rfl, rfl, rfl, rfl, ⟨⟨by kernel_rfl, rfl⟩, trivial⟩, ?_⟩, ?_⟩
            · intro a w1 hC e0 (h18 : a.tmps.getD 70 undef = _)
              refine Or.inl ⟨h18, ?_⟩
              refine Or.inl ⟨_, ?_, rfl⟩
              go_simp
              first | (go_bits; rfl) | rfl | (rw [if_pos (by omega)])
            refine ⟨⟨⟨_, _, _, _, _, _⟩, _, Is ?vC23, (some (some 70, false)), [(some 70, Is ?vC18)], [(7, .int .i64 (k + 1))], rfl, rfl, rfl, rfl, rfl, ⟨⟨by kernel_rfl, rfl⟩, trivial⟩, ?_⟩, ?_⟩
            · intro a w1 hC e7 (h18 : a.tmps.getD 70 undef = _)
              refine Or.inl ⟨h18, ?_⟩
              refine Or.inl ⟨_, ?_, rfl⟩
              go_simp
              first | (go_bits; rfl) | rfl | (rw [if_pos (by omega)])
            refine ⟨⟨⟨_, _, _, _, _, _⟩, _, Is ?vC24, (some (some 70, false)), [(some 74, Is ?vC22), (some 75, Is ?vC23), (some 70, Is ?vC18)], [], rfl, rfl, rfl, rfl, rfl, trivial, ?_⟩, ?_⟩
            · intro a w1 hC  (h22 : a.tmps.getD 74 undef = _) (h23 : a.tmps.getD 75 undef = _) (h18 : a.tmps.getD 70 undef = _)
              refine Or.inl ⟨h18, ?_⟩
              refine Or.inl ⟨_, ?_, rfl⟩
              go_simp
              first | (go_bits; rfl) | rfl | (rw [if_pos (by omega)])
            refine ⟨⟨⟨_, _, _, _, _, _⟩, _, Is (.string s0), (some (some 70, false)), [(some 76, Is ?vC24), (some 70, Is ?vC18)], [], rfl, rfl, rfl, rfl, rfl, trivial, ?_⟩, ?_⟩
            · intro a w1 hC  (h24 : a.tmps.getD 76 undef = _) (h18 : a.tmps.getD 70 undef = _)
              refine Or.inl ⟨h18, ?_⟩
              refine Or.inl ⟨.string s0, ?_, rfl⟩
              have c := conv_str (P := Try.prog) ((Hr.out.below hC).upto (i := k + 1) (by omega)) 41 9 5 Try.underlying41 Try.underlying5 Try.underlying9
              rw [← Hs0.out] at c
              go_simp
            refine ⟨⟨⟨_, _, _, _, _, _⟩, _, Is ?vC26, (some (some 70, false)), [(some 73, Is (.string s1)), (some 77, Is (.string s0)), (some 70, Is ?vC18)], [], rfl, rfl, rfl, rfl, rfl, trivial, ?_⟩, ?_⟩
            · intro a w1 hC  (h21 : a.tmps.getD 73 undef = _) (h25 : a.tmps.getD 77 undef = _) (h18 : a.tmps.getD 70 undef = _)
              refine Or.inl ⟨h18, ?_⟩
              refine Or.inl ⟨_, ?_, rfl⟩
              go_simp
              first | (go_bits; rfl) | rfl | (rw [if_pos (by omega)])
            refine ⟨⟨⟨_, _, _, _, _, _⟩, _, Is ?vC27, none, [(some 70, Is ?vC18), (some 78, Is ?vC26)], [], rfl, rfl, rfl, rfl, rfl, trivial, ?_⟩, ?_⟩
            · intro a w1 hC  (h18 : a.tmps.getD 70 undef = _) (h26 : a.tmps.getD 78 undef = _)
              refine Or.inl ⟨_, ?_, rfl⟩
              go_simp
              first | (go_bits; rfl) | rfl | (rw [if_pos (by omega)])
            exact trivial
          case hstC => exact ⟨Stays.is _, Stays.is _, Stays.is _, Stays.is _, Stays.is _, Stays.is _, Stays.is _, Stays.is _, Stays.is _, Stays.is _, Stays.is _, Stays.is _, Stays.is _, Stays.is _, Stays.is _, Stays.is _, Stays.is _, Stays.is _, Stays.is _, Stays.is _, Stays.rd _ _, Stays.is _, Stays.is _, Stays.is _, Stays.is _, Stays.is _, Stays.is _, Stays.is _, trivial⟩
          case hendC =>
            intro w1 hC
            rintro _ rfl
            rintro _ rfl
            rintro _ rfl
            rintro _ rfl
            rintro _ rfl
            rintro _ rfl
            rintro _ rfl
            rintro _ rfl
            rintro _ rfl
            rintro _ rfl
            rintro _ rfl
            rintro _ rfl
            rintro _ rfl
            rintro _ rfl
            rintro _ rfl
            rintro _ rfl
            rintro _ rfl
            rintro _ rfl
            rintro _ rfl
            rintro _ rfl
            intro x20 h20
            rintro _ rfl
            rintro _ rfl
            rintro _ rfl
            rintro _ rfl
            rintro _ rfl
            rintro _ rfl
            rintro _ rfl
            simp only [Ends, Act.put, List.setIfInBounds_toArray, List.set_cons_succ, List.set_cons_zero]
            go_wp2_with fail
            · have hne : (!s1.toList == s0.toList) = true := by assumption
              have hng : ¬ goodS xs bits k := fun h => by rw [Hiff.out.2 h] at hne; simp at hne
              go_ret3
              exact ⟨fun h => absurd h hng, fun _ => rfl, hC⟩
            · have hne : (!s1.toList == s0.toList) = false := by assumption
              have hg : goodS xs bits k := Hiff.out.1 (str_eq (by simpa using hne))
              go_ret3
              exact ⟨fun _ => by rw [← Hv.out hg]; rfl, fun h => absurd hg h, hC⟩
      · have hpv : p = 9223372036854775808 := by
          rw [hpp, show bits = 64 from by omega]; decide
        have hiff : strOfNums (encS 9 v) = strOfNums (xs.take (k + 1)) ↔ goodS xs bits k := by
          rw [Hiff0.out, Hgd.out, hpv]
          exact ⟨fun ⟨h, e⟩ => ⟨h, by rw [← e]; exact ⟨hv0, by omega⟩⟩, fun h => ⟨h.1, Hv.out (Hgd.out.2 (by rw [hpv]; exact h))⟩⟩
        obtain ⟨s0, hs0⟩ : ∃ s0, s0 = strOfNums (xs.take (k + 1)) := ⟨_, rfl⟩
        obtain ⟨s1, hs1'⟩ : ∃ s1, s1 = strOfNums (encS 9 v) := ⟨_, rfl⟩
        rw [← hs0, ← hs1'] at hiff
        have Hs0 := hid hs0
        have Hs1 := hid hs1'
        have Hr := hid hr
        have Hiff := hid hiff
        have hd1 : decide (bits < 64) = false := decide_eq_false hb64
        clear hs0 hs1' hr hiff hpv hpp
        go_wp2_with fail
        refine wp_region_below (by kernel_rfl) [Is ?vD0, Is ?vD1, Is ?vD2, Is ?vD3, Is ?vD4, Is ?vD5, Is ?vD6, Is ?vD7, Is ?vD8, Is ?vD9, Is ?vD10, Is ?vD11, Is ?vD12, Is ?vD13, Is ?vD14, Is ?vD15, Is ?vD16, Is ?vD17, Is ?vD18, Is ?vD19, IsRd .u8 (encS 9 v), Is (.string s1), Is ?vD22, Is ?vD23, Is ?vD24, Is (.string s0), Is ?vD26, Is ?vD27] [0, 1, 2, 3, 4, 5, 6, 7, 8, 9, 10, 11, 12, 13, 14, 15, 16, 17, 18, 19, 20, 21, 22, 23, 24, 25, 26, 27] rfl (by kernel_rfl) rfl ?hopD ?hstD ?hendD
        case hopD =>
          refine ⟨⟨⟨_, _, _, _, _, _⟩, _, Is ?vD0, none, [], [(1, .int .i64 bits)], rfl, rfl, rfl, rfl, rfl, ⟨⟨by kernel_rfl, rfl⟩, trivial⟩, ?_⟩, ?_⟩
          · intro a w1 hC e1
            refine Or.inl ⟨_, ?_, rfl⟩
            go_simp
            first | (go_bits; rfl) | rfl | (rw [if_pos (by omega)])
          refine ⟨⟨⟨_, _, _, _, _, _⟩, _, Is ?vD1, none, [(some 52, Is ?vD0)], [], rfl, rfl, rfl, rfl, rfl, trivial, ?_⟩, ?_⟩
          · intro a w1 hC  (h0 : a.tmps.getD 52 undef = _)
            refine Or.inl ⟨_, ?_, rfl⟩
            go_simp
            first | (go_bits; rfl) | rfl | (rw [if_pos (by omega)])
          refine ⟨⟨⟨_, _, _, _, _, _⟩, _, Is ?vD2, none, [(some 53, Is ?vD1)], [], rfl, rfl, rfl, rfl, rfl, trivial, ?_⟩, ?_⟩
          · intro a w1 hC  (h1 : a.tmps.getD 53 undef = _)
            refine Or.inl ⟨_, ?_, rfl⟩
            go_simp
            first | (go_bits; rfl) | rfl | (rw [if_pos (by omega)])
          refine ⟨⟨⟨_, _, _, _, _, _⟩, _, Is ?vD3, (some (some 54, true)), [(some 54, Is ?vD2)], [(9, .int .i64 v)], rfl, rfl, rfl, rfl, rfl, ⟨⟨by kernel_rfl, rfl⟩, trivial⟩, ?_⟩, ?_⟩
          · intro a w1 hC e9 (h2 : a.tmps.getD 54 undef = _)
            refine Or.inr ⟨fun hh => ?_, ?_⟩
            · have := h2.symm.trans hh; cases this
            · rfl
          refine ⟨⟨⟨_, _, _, _, _, _⟩, _, Is ?vD4, (some (some 54, true)), [(some 54, Is ?vD2)], [(1, .int .i64 bits)], rfl, rfl, rfl, rfl, rfl, ⟨⟨by kernel_rfl, rfl⟩, trivial⟩, ?_⟩, ?_⟩
          · intro a w1 hC e1 (h2 : a.tmps.getD 54 undef = _)
            refine Or.inr ⟨fun hh => ?_, ?_⟩
            · have := h2.symm.trans hh; cases this
            · rfl
          refine ⟨⟨⟨_, _, _, _, _, _⟩, _, Is ?vD5, (some (some 54, true)), [(some 56, Is ?vD4), (some 54, Is ?vD2)], [], rfl, rfl, rfl, rfl, rfl, trivial, ?_⟩, ?_⟩
          · intro a w1 hC  (h4 : a.tmps.getD 56 undef = _) (h2 : a.tmps.getD 54 undef = _)
            refine Or.inr ⟨fun hh => ?_, ?_⟩
            · have := h2.symm.trans hh; cases this
            · rfl
          refine ⟨⟨⟨_, _, _, _, _, _⟩, _, Is ?vD6, (some (some 54, true)), [(some 57, Is ?vD5), (some 54, Is ?vD2)], [], rfl, rfl, rfl, rfl, rfl, trivial, ?_⟩, ?_⟩
          · intro a w1 hC  (h5 : a.tmps.getD 57 undef = _) (h2 : a.tmps.getD 54 undef = _)
            refine Or.inr ⟨fun hh => ?_, ?_⟩
            · have := h2.symm.trans hh; cases this
            · rfl
          refine ⟨⟨⟨_, _, _, _, _, _⟩, _, Is ?vD7, (some (some 54, true)), [(some 58, Is ?vD6), (some 54, Is ?vD2)], [], rfl, rfl, rfl, rfl, rfl, trivial, ?_⟩, ?_⟩
          · intro a w1 hC  (h6 : a.tmps.getD 58 undef = _) (h2 : a.tmps.getD 54 undef = _)
            refine Or.inr ⟨fun hh => ?_, ?_⟩
            · have := h2.symm.trans hh; cases this
            · rfl
          refine ⟨⟨⟨_, _, _, _, _, _⟩, _, Is ?vD8, (some (some 54, true)), [(some 55, Is ?vD3), (some 59, Is ?vD7), (some 54, Is ?vD2)], [], rfl, rfl, rfl, rfl, rfl, trivial, ?_⟩, ?_⟩
          · intro a w1 hC  (h3 : a.tmps.getD 55 undef = _) (h7 : a.tmps.getD 59 undef = _) (h2 : a.tmps.getD 54 undef = _)
            refine Or.inr ⟨fun hh => ?_, ?_⟩
            · have := h2.symm.trans hh; cases this
            · rfl
          refine ⟨⟨⟨_, _, _, _, _, _⟩, _, Is ?vD9, (some (some 54, true)), [(some 60, Is ?vD8), (some 54, Is ?vD2), (some 54, Is ?vD2)], [], rfl, rfl, rfl, rfl, rfl, trivial, ?_⟩, ?_⟩
          · intro a w1 hC  (h8 : a.tmps.getD 60 undef = _) (h2 : a.tmps.getD 54 undef = _) _
            refine Or.inr ⟨fun hh => ?_, ?_⟩
            · have := h2.symm.trans hh; cases this
            · rfl
          refine ⟨⟨⟨_, _, _, _, _, _⟩, _, Is ?vD10, (some (some 61, false)), [(some 61, Is ?vD9)], [(9, .int .i64 v)], rfl, rfl, rfl, rfl, rfl, ⟨⟨by kernel_rfl, rfl⟩, trivial⟩, ?_⟩, ?_⟩
          · intro a w1 hC e9 (h9 : a.tmps.getD 61 undef = _)
            refine Or.inr ⟨fun hh => ?_, ?_⟩
            · have := h9.symm.trans hh; cases this
            · rfl
          refine ⟨⟨⟨_, _, _, _, _, _⟩, _, Is ?vD11, (some (some 61, false)), [(some 61, Is ?vD9)], [(1, .int .i64 bits)], rfl, rfl, rfl, rfl, rfl, ⟨⟨by kernel_rfl, rfl⟩, trivial⟩, ?_⟩, ?_⟩
          · intro a w1 hC e1 (h9 : a.tmps.getD 61 undef = _)
            refine Or.inr ⟨fun hh => ?_, ?_⟩
            · have := h9.symm.trans hh; cases this
            · rfl
          refine ⟨⟨⟨_, _, _, _, _, _⟩, _, Is ?vD12, (some (some 61, false)), [(some 63, Is ?vD11), (some 61, Is ?vD9)], [], rfl, rfl, rfl, rfl, rfl, trivial, ?_⟩, ?_⟩
          · intro a w1 hC  (h11 : a.tmps.getD 63 undef = _) (h9 : a.tmps.getD 61 undef = _)
            refine Or.inr ⟨fun hh => ?_, ?_⟩
            · have := h9.symm.trans hh; cases this
            · rfl
          refine ⟨⟨⟨_, _, _, _, _, _⟩, _, Is ?vD13, (some (some 61, false)), [(some 64, Is ?vD12), (some 61, Is ?vD9)], [], rfl, rfl, rfl, rfl, rfl, trivial, ?_⟩, ?_⟩
          · intro a w1 hC  (h12 : a.tmps.getD 64 undef = _) (h9 : a.tmps.getD 61 undef = _)
            refine Or.inr ⟨fun hh => ?_, ?_⟩
            · have := h9.symm.trans hh; cases this
            · rfl
          refine ⟨⟨⟨_, _, _, _, _, _⟩, _, Is ?vD14, (some (some 61, false)), [(some 65, Is ?vD13), (some 61, Is ?vD9)], [], rfl, rfl, rfl, rfl, rfl, trivial, ?_⟩, ?_⟩
          · intro a w1 hC  (h13 : a.tmps.getD 65 undef = _) (h9 : a.tmps.getD 61 undef = _)
            refine Or.inr ⟨fun hh => ?_, ?_⟩
            · have := h9.symm.trans hh; cases this
            · rfl
          refine ⟨⟨⟨_, _, _, _, _, _⟩, _, Is ?vD15, (some (some 61, false)), [(some 62, Is ?vD10), (some 66, Is ?vD14), (some 61, Is ?vD9)], [], rfl, rfl, rfl, rfl, rfl, trivial, ?_⟩, ?_⟩
          · intro a w1 hC  (h10 : a.tmps.getD 62 undef = _) (h14 : a.tmps.getD 66 undef = _) (h9 : a.tmps.getD 61 undef = _)
            refine Or.inr ⟨fun hh => ?_, ?_⟩
            · have := h9.symm.trans hh; cases this
            · rfl
          refine ⟨⟨⟨_, _, _, _, _, _⟩, _, Is ?vD16, (some (some 54, true)), [(some 61, Is ?vD9), (some 67, Is ?vD15), (some 54, Is ?vD2)], [], rfl, rfl, rfl, rfl, rfl, trivial, ?_⟩, ?_⟩
          · intro a w1 hC  (h9 : a.tmps.getD 61 undef = _) (h15 : a.tmps.getD 67 undef = _) (h2 : a.tmps.getD 54 undef = _)
            refine Or.inr ⟨fun hh => ?_, ?_⟩
            · have := h2.symm.trans hh; cases this
            · rfl
          refine ⟨⟨⟨_, _, _, _, _, _⟩, _, Is ?vD17, none, [(some 54, Is ?vD2), (some 68, Is ?vD16)], [], rfl, rfl, rfl, rfl, rfl, trivial, ?_⟩, ?_⟩
          · intro a w1 hC  (h2 : a.tmps.getD 54 undef = _) (h16 : a.tmps.getD 68 undef = _)
            refine Or.inl ⟨_, ?_, rfl⟩
            go_simp
            first | (go_bits; rfl) | rfl | (rw [if_pos (by omega)])
          refine ⟨⟨⟨_, _, _, _, _, _⟩, _, Is ?vD18, none, [(some 69, Is ?vD17), (some 61, Is ?vD9)], [], rfl, rfl, rfl, rfl, rfl, trivial, ?_⟩, ?_⟩
          · intro a w1 hC  (h17 : a.tmps.getD 69 undef = _) (h9 : a.tmps.getD 61 undef = _)
            refine Or.inl ⟨_, ?_, rfl⟩
            go_simp
            first | (go_bits; rfl) | rfl | (rw [if_pos (by omega)])
          refine ⟨⟨⟨_, _, _, _, _, _⟩, _, Is ?vD19, (some (some 70, false)), [(some 70, Is ?vD18)], [(9, .int .i64 v)], rfl, rfl, rfl, rfl, rfl, ⟨⟨by kernel_rfl, rfl⟩, trivial⟩, ?_⟩, ?_⟩
          · intro a w1 hC e9 (h18 : a.tmps.getD 70 undef = _)
            refine Or.inl ⟨h18, ?_⟩
            refine Or.inl ⟨_, ?_, rfl⟩
            go_simp
            first | (go_bits; rfl) | rfl | (rw [if_pos (by omega)])
          refine ⟨⟨⟨_, _, _, _, _, _⟩, _, IsRd .u8 (encS 9 v), (some (some 70, false)), [(some 71, Is ?vD19), (some 70, Is ?vD18), (some 70, Is ?vD18)], [], rfl, rfl, rfl, rfl, rfl, trivial, ?_⟩, ?_⟩
          · intro a w1 hC  (h19 : a.tmps.getD 71 undef = _) (h18 : a.tmps.getD 70 undef = _) _
            refine Or.inl ⟨h18, ?_⟩
            refine Or.inr (Or.inl ⟨43, #[.int .i64 v], ?_, ?_⟩)
            · go_simp
            · refine (refS_any v w1 hv0 hv1).mono ?_
              rintro e w2 ⟨vv, rfl, hown, hbel⟩
              obtain ⟨ao1, cap1, rfl, hrd⟩ := hown.rd
              exact ⟨_, rfl, ⟨ao1, cap1, rfl, hrd⟩, hbel⟩
          refine ⟨⟨⟨_, _, _, _, _, _⟩, _, Is (.string s1), (some (some 70, false)), [(some 72, IsRd .u8 (encS 9 v)), (some 70, Is ?vD18)], [], rfl, rfl, rfl, rfl, rfl, trivial, ?_⟩, ?_⟩
          · intro a w1 hC  h20 (h18 : a.tmps.getD 70 undef = _)
            refine Or.inl ⟨h18, ?_⟩
            obtain ⟨ao1, cap1, e20, hrd⟩ := h20
            refine Or.inl ⟨.string s1, ?_, rfl⟩
            have e20 : a.tmps.getD 72 undef = _ := e20
            have c := conv_str (P := Try.prog) hrd 41 9 5 Try.underlying41 Try.underlying5 Try.underlying9
            rw [← Hs1.out] at c
            go_simp
          refine ⟨⟨⟨_, _, _, _, _, _⟩, _, Is ?vD22, (some (some 70, false)), [(some 70, Is ?vD18)], [(0, .slice (some ⟨b, off, none⟩) n cap)], rfl, rfl, rfl, rfl, rfl, ⟨⟨by kernel_rfl, rfl⟩, trivial⟩, ?_⟩, ?_⟩
          · intro a w1 hC e0 (h18 : a.tmps.getD 70 undef = _)
            refine Or.inl ⟨h18, ?_⟩
            refine Or.inl ⟨_, ?_, rfl⟩
            go_simp
            first | (go_bits; rfl) | rfl | (rw [if_pos (by omega)])
          refine ⟨⟨⟨_, _, _, _, _, _⟩, _, Is ?vD23, (some (some 70, false)), [(some 70, Is ?vD18)], [(7, .int .i64 (k + 1))], rfl, rfl, rfl, rfl, rfl, ⟨⟨by kernel_rfl, rfl⟩, trivial⟩, ?_⟩, ?_⟩
          · intro a w1 hC e7 (h18 : a.tmps.getD 70 undef = _)
            refine Or.inl ⟨h18, ?_⟩
            refine Or.inl ⟨_, ?_, rfl⟩
            go_simp
            first | (go_bits; rfl) | rfl | (rw [if_pos (by omega)])
          refine ⟨⟨⟨_, _, _, _, _, _⟩, _, Is ?vD24, (some (some 70, false)), [(some 74, Is ?vD22), (some 75, Is ?vD23), (some 70, Is ?vD18)], [], rfl, rfl, rfl, rfl, rfl, trivial, ?_⟩, ?_⟩
          · intro a w1 hC  (h22 : a.tmps.getD 74 undef = _) (h23 : a.tmps.getD 75 undef = _) (h18 : a.tmps.getD 70 undef = _)
            refine Or.inl ⟨h18, ?_⟩
            refine Or.inl ⟨_, ?_, rfl⟩
            go_simp
            first | (go_bits; rfl) | rfl | (rw [if_pos (by omega)])
          refine ⟨⟨⟨_, _, _, _, _, _⟩, _, Is (.string s0), (some (some 70, false)), [(some 76, Is ?vD24), (some 70, Is ?vD18)], [], rfl, rfl, rfl, rfl, rfl, trivial, ?_⟩, ?_⟩
          · intro a w1 hC  (h24 : a.tmps.getD 76 undef = _) (h18 : a.tmps.getD 70 undef = _)
            refine Or.inl ⟨h18, ?_⟩
            refine Or.inl ⟨.string s0, ?_, rfl⟩
            have c := conv_str (P := Try.prog) ((Hr.out.below hC).upto (i := k + 1) (by omega)) 41 9 5 Try.underlying41 Try.underlying5 Try.underlying9
            rw [← Hs0.out] at c
            go_simp
          refine ⟨⟨⟨_, _, _, _, _, _⟩, _, Is ?vD26, (some (some 70, false)), [(some 73, Is (.string s1)), (some 77, Is (.string s0)), (some 70, Is ?vD18)], [], rfl, rfl, rfl, rfl, rfl, trivial, ?_⟩, ?_⟩
          · intro a w1 hC  (h21 : a.tmps.getD 73 undef = _) (h25 : a.tmps.getD 77 undef = _) (h18 : a.tmps.getD 70 undef = _)
            refine Or.inl ⟨h18, ?_⟩
            refine Or.inl ⟨_, ?_, rfl⟩
            go_simp
            first | (go_bits; rfl) | rfl | (rw [if_pos (by omega)])
          refine ⟨⟨⟨_, _, _, _, _, _⟩, _, Is ?vD27, none, [(some 70, Is ?vD18), (some 78, Is ?vD26)], [], rfl, rfl, rfl, rfl, rfl, trivial, ?_⟩, ?_⟩
          · intro a w1 hC  (h18 : a.tmps.getD 70 undef = _) (h26 : a.tmps.getD 78 undef = _)
            refine Or.inl ⟨_, ?_, rfl⟩
            go_simp
            first | (go_bits; rfl) | rfl | (rw [if_pos (by omega)])
          exact trivial
        case hstD => exact ⟨Stays.is _, Stays.is _, Stays.is _, Stays.is _, Stays.is _, Stays.is _, Stays.is _, Stays.is _, Stays.is _, Stays.is _, Stays.is _, Stays.is _, Stays.is _, Stays.is _, Stays.is _, Stays.is _, Stays.is _, Stays.is _, Stays.is _, Stays.is _, Stays.rd _ _, Stays.is _, Stays.is _, Stays.is _, Stays.is _, Stays.is _, Stays.is _, Stays.is _, trivial⟩
        case hendD =>
          intro w1 hC
          rintro _ rfl
          rintro _ rfl
          rintro _ rfl
          rintro _ rfl
          rintro _ rfl
          rintro _ rfl
          rintro _ rfl
          rintro _ rfl
          rintro _ rfl
          rintro _ rfl
          rintro _ rfl
          rintro _ rfl
          rintro _ rfl
          rintro _ rfl
          rintro _ rfl
          rintro _ rfl
          rintro _ rfl
          rintro _ rfl
          rintro _ rfl
          rintro _ rfl
          intro x20 h20
          rintro _ rfl
          rintro _ rfl
          rintro _ rfl
          rintro _ rfl
          rintro _ rfl
          rintro _ rfl
          rintro _ rfl
          simp only [Ends, Act.put, List.setIfInBounds_toArray, List.set_cons_succ, List.set_cons_zero]
          go_wp2_with fail
          · have hne : (!s1.toList == s0.toList) = true := by assumption
            have hng : ¬ goodS xs bits k := fun h => by rw [Hiff.out.2 h] at hne; simp at hne
            go_ret3
            exact ⟨fun h => absurd h hng, fun _ => rfl, hC⟩
          · have hne : (!s1.toList == s0.toList) = false := by assumption
            have hg : goodS xs bits k := Hiff.out.1 (str_eq (by simpa using hne))
            go_ret3
            exact ⟨fun _ => by rw [← Hv.out hg]; rfl, fun h => absurd hg h, hC⟩
      | succ j =>
      have hck' := Hc.out j (by omega)
      obtain ⟨y, hyk⟩ : ∃ y, y = xs.getD j 0 := ⟨_, rfl⟩
      have hby := hb.getD j
      rw [← hyk] at hck' hby
      have hV : sval ((xs.take (k + 1)).drop j) = y % 128 + 128 * sval ((xs.take (k + 1)).drop (j + 1)) := by
        have hjl : j < (xs.take (k + 1)).length := by simp; omega
        rw [List.drop_eq_getElem_cons hjl, sval_step _ _ (by
          intro h
          have := congrArg List.length h
          simp at this
          omega)]
        congr 1
        rw [hyk]
        simp [List.getD, show j < xs.length by omega]
      have hstep : wrap64 (wrap64 (v * 128) + y % 128) = wrap64 (sval ((xs.take (k + 1)).drop j)) := by
        rw [HV.out, hV]
        exact wrap64_step _ _
      have Hstep := hid hstep
      have hbd := wrap64_bd (wrap64 (v * 128) + y % 128)
      clear hyk hV hstep
      go_wp2
      go_round
      case rel =>
        exact ⟨j, wrap64 (wrap64 (v * 128) + y % 128), by go_num, rfl, by omega, hbd.1, hbd.2, Hstep.out⟩
      case measure => simp [intOf]

set_option maxRecDepth 100000 in
set_option maxHeartbeats 1600000 in
theorem GetS_hi (hs : Stop xs m k) (hx0 : 64 ≤ xs.getD k 0) :
    Calls Try.prog 73 #[.slice ao n cap, .int .i64 bits] w fun e w' => (goodS xs bits k → e = .returned (.tuple #[.int .i64 (sval (xs.take (k + 1))), .int .i64 (k + 1), .int .i64 0])) ∧ (¬ goodS xs bits k → e = .returned (.tuple #[.int .i64 0, .int .i64 0, .int .i64 1])) ∧ Below w.heap.size w w' := by
  have hb : Bs xs := fun x hx => bounds_u8 (hr.wf x hx)
  have H := hid (whole_stop ao n cap xs bits w hr h1 h2 m hm k hs)
  have hkm := hs.most
  have hkn := hs.lt
  have hlen := hr.len
  have hkn' : k < n := by omega
  have hcap : k + 1 ≤ cap := by have := hr.le; omega
  have hk9 : k ≤ 9 := by omega
  obtain ⟨b, off, rfl, hc⟩ := hr.at (by omega)
  have Hc := hid hc
  have Hs := hid hs
  have hck := hc k (by omega)
  obtain ⟨x, hxk⟩ : ∃ x, x = xs.getD k 0 := ⟨_, rfl⟩
  have hbk := hb.getD k
  have hx128 : x < 128 := by rw [hxk]; exact hs.last
  rw [← hxk] at hck hbk hx0
  have htk : (xs.take (k + 1)).drop k = [x] := by
    rw [take_low xs k hkn, ← hxk, show k = (low xs k).length from (low_length xs k hkn).symm, List.drop_left' (by rw [low_length xs (low xs k).length (by rw [low_length xs k hkn]; exact hkn)])]
  have Htk := hid htk
  have Hxk := hid hxk
  clear hc hlen hs hm htk hxk
  go_enter Try.func73, Try.ntmps73
  go_wp2_with (go_at_call 79; refine H.out.mono ?_; rintro e w' ⟨rfl, rfl⟩)
  go_loop [9, 10] (fun q i => ∃ (j : Nat) (v : Int), i = .int .i64 ((j : Int) - 1) ∧ q = .int .i64 v ∧ j ≤ k ∧ -9223372036854775808 ≤ v ∧ v ≤ 9223372036854775807 ∧
      Hid (v = wrap64 (sval ((xs.take (k + 1)).drop j)))) (fun _ i => (intOf i + 1).toNat)
  case atStart =>
    refine ⟨k, _, by go_num, rfl, Nat.le_refl _, by omega, by omega, ?_⟩
    show _ = _
    rw [Htk.out]
    simp only [sval, ext]
    first | rw [if_pos (by omega), wrap64_id _ (by omega) (by omega)] | (rw [if_neg (by omega), wrap64_id _ (by omega) (by omega)])
  case round =>
    obtain ⟨j, v, rfl, rfl, hj, hv0, hv1, HV⟩ := hrel
    cases j with
    | zero =>
      have hp63 := hid (show (2 : Int) ^ (bits - 1).toNat ≤ 9223372036854775808 from by
        have := two_pow_le (show (bits - 1).toNat ≤ 63 by omega)
        rw [show (2 : Int) ^ 63 = 9223372036854775808 from by decide] at this
        exact this)
      have hpos := hid (show (0 : Int) < 2 ^ (bits - 1).toNat from Int.pow_pos (by decide))
      have hv : v = wrap64 (sval (xs.take (k + 1))) := by simpa using HV.out
      have hgv : goodS xs bits k → v = sval (xs.take (k + 1)) := by
        rintro ⟨_, g2, g3⟩
        have := hp63.out
        rw [hv]
        exact wrap64_id _ (by omega) (by omega)
      have Hv := hid hgv
      clear hgv
      have Hv2 := hid hv
      clear hv
      have hiff0 := str_iffS Hs.out hb (by omega) hv0 hv1
      obtain ⟨p, hpp⟩ : ∃ p : Int, p = 2 ^ (bits - 1).toNat := ⟨_, rfl⟩
      have hwb : IntKind.u64.wrap (bits - 1) = bits - 1 := IntWalk.u64_in _ (by omega)
      have hq0 : 0 ≤ bits - 1 := by omega
      have hp0 : 0 < p := by rw [hpp]; exact hpos.out
      have hp63' : p ≤ 9223372036854775808 := by rw [hpp]; exact hp63.out
      have hgd : goodS xs bits k ↔ (canS (xs.take (k + 1)) ∧ -p ≤ sval (xs.take (k + 1)) ∧ sval (xs.take (k + 1)) < p) := by rw [hpp]; exact Iff.rfl
      have Hgd := hid hgd
      have Hiff0 := hid hiff0
      clear hgd hiff0
      by_cases hb64 : bits < 64
      · have hple : p ≤ 4611686018427387904 := by
          rw [hpp]
          have := two_pow_le (show (bits - 1).toNat ≤ 62 by omega)
          rw [show (2 : Int) ^ 62 = 4611686018427387904 from by decide] at this
          exact this
        have hs1 : IntKind.i64.wrap (2 ^ (bits.toNat - 1)) = p := by rw [toNat_pred, ← hpp]; exact IntWalk.i64_in p (by omega)
        have hs2 : wrap64 (2 ^ (bits.toNat - 1)) = p := by rw [toNat_pred, ← hpp]; exact wrap64_id p (by omega) (by omega)
        have hs3' := (neg_in p hp0 hple).1
        have hs3 : IntKind.i64.wrap (-2 ^ (bits.toNat - 1)) = -p := by rw [toNat_pred, ← hpp]; exact hs3'
        have hs4' := (neg_in p hp0 hple).2
        have hs4 : wrap64 (-2 ^ (bits.toNat - 1)) = -p := by rw [toNat_pred, ← hpp]; exact hs4'
        clear hs3' hs4'
        have hd1 : decide (bits < 64) = true := decide_eq_true hb64
        clear hpp
        rcases three_way v p with hlo | ⟨hlo, hhi⟩ | ⟨hlo, hhi⟩
        · have hng : ¬ goodS xs bits k := fun h => by have h1 := Hv.out h; have h2 := (Hgd.out.1 h).2; rw [← h1] at h2; first | exact absurd h2.1 (Int.not_le.2 hlo) | exact absurd h2.2 (Int.not_lt.2 hhi)
          go_wp2_with fail
          go_quiet (fail)
          go_wp2_with fail
          go_ret3
          exact ⟨fun h => absurd h hng, fun _ => rfl, ⟨rfl, rfl, rfl, Nat.le_refl _, fun _ _ => rfl⟩⟩
        · have hng : ¬ goodS xs bits k := fun h => by have h1 := Hv.out h; have h2 := (Hgd.out.1 h).2; rw [← h1] at h2; first | exact absurd h2.1 (Int.not_le.2 hlo) | exact absurd h2.2 (Int.not_lt.2 hhi)
          have hd2 : decide (v < -p) = false := decide_eq_false (Int.not_lt.2 hlo)
          go_wp2_with fail
          go_quiet (fail)
          go_wp2_with fail
          go_ret3
          exact ⟨fun h => absurd h hng, fun _ => rfl, ⟨rfl, rfl, rfl, Nat.le_refl _, fun _ _ => rfl⟩⟩
        · have hiff : strOfNums (encS 9 v) = strOfNums (xs.take (k + 1)) ↔ goodS xs bits k := by
            rw [Hiff0.out, Hgd.out]
            exact ⟨fun ⟨h, e⟩ => ⟨h, by rw [← e]; exact ⟨hlo, hhi⟩⟩, fun h => ⟨h.1, Hv.out (Hgd.out.2 h)⟩⟩
          obtain ⟨s0, hs0⟩ : ∃ s0, s0 = strOfNums (xs.take (k + 1)) := ⟨_, rfl⟩
          obtain ⟨s1, hs1'⟩ : ∃ s1, s1 = strOfNums (encS 9 v) := ⟨_, rfl⟩
          rw [← hs0, ← hs1'] at hiff
          have Hs0 := hid hs0
          have Hs1 := hid hs1'
          have Hr := hid hr
          have Hiff := hid hiff
          have hd2 : decide (v < -p) = false := decide_eq_false (Int.not_lt.2 hlo)
          have hd3 : decide (p ≤ v) = false := decide_eq_false (Int.not_le.2 hhi)
          clear hs0 hs1' hr hiff
          go_wp2_with fail
          refine wp_region_below (by kernel_rfl) [Is ?vC0, Is ?vC1, Is ?vC2, Is ?vC3, Is ?vC4, Is ?vC5, Is ?vC6, Is ?vC7, Is ?vC8, Is ?vC9, Is ?vC10, Is ?vC11, Is ?vC12, Is ?vC13, Is ?vC14, Is ?vC15, Is ?vC16, Is ?vC17, Is ?vC18, Is ?vC19, IsRd .u8 (encS 9 v), Is (.string s1), Is ?vC22, Is ?vC23, Is ?vC24, Is (.string s0), Is ?vC26, Is ?vC27] [0, 1, 2, 3, 4, 5, 6, 7, 8, 9, 10, 11, 12, 13, 14, 15, 16, 17, 18, 19, 20, 21, 22, 23, 24, 25, 26, 27] rfl (by kernel_rfl) rfl ?hopC ?hstC ?hendC
          case hopC =>
            refine ⟨⟨⟨_, _, _, _, _, _⟩, _, Is ?vC0, none, [], [(1, .int .i64 bits)], rfl, rfl, rfl, rfl, rfl, ⟨⟨by kernel_rfl, rfl⟩, trivial⟩, ?_⟩, ?_⟩
            · intro a w1 hC e1
              refine Or.inl ⟨_, ?_, rfl⟩
              go_simp
              first | (go_bits; rfl) | rfl | (rw [if_pos (by omega)])
            refine ⟨⟨⟨_, _, _, _, _, _⟩, _, Is ?vC1, none, [(some 52, Is ?vC0)], [], rfl, rfl, rfl, rfl, rfl, trivial, ?_⟩, ?_⟩
            · intro a w1 hC  (h0 : a.tmps.getD 52 undef = _)
              refine Or.inl ⟨_, ?_, rfl⟩
              go_simp
              first | (go_bits; rfl) | rfl | (rw [if_pos (by omega)])
            refine ⟨⟨⟨_, _, _, _, _, _⟩, _, Is ?vC2, none, [(some 53, Is ?vC1)], [], rfl, rfl, rfl, rfl, rfl, trivial, ?_⟩, ?_⟩
            · intro a w1 hC  (h1 : a.tmps.getD 53 undef = _)
              refine Or.inl ⟨_, ?_, rfl⟩
              go_simp
              first | (go_bits; rfl) | rfl | (rw [if_pos (by omega)])
            refine ⟨⟨⟨_, _, _, _, _, _⟩, _, Is ?vC3, (some (some 54, true)), [(some 54, Is ?vC2)], [(9, .int .i64 v)], rfl, rfl, rfl, rfl, rfl, ⟨⟨by kernel_rfl, rfl⟩, trivial⟩, ?_⟩, ?_⟩
            · intro a w1 hC e9 (h2 : a.tmps.getD 54 undef = _)
              refine Or.inl ⟨h2, ?_⟩
              refine Or.inl ⟨_, ?_, rfl⟩
              go_simp
              first | (go_bits; rfl) | rfl | (rw [if_pos (by omega)])
            refine ⟨⟨⟨_, _, _, _, _, _⟩, _, Is ?vC4, (some (some 54, true)), [(some 54, Is ?vC2)], [(1, .int .i64 bits)], rfl, rfl, rfl, rfl, rfl, ⟨⟨by kernel_rfl, rfl⟩, trivial⟩, ?_⟩, ?_⟩
            · intro a w1 hC e1 (h2 : a.tmps.getD 54 undef = _)
              refine Or.inl ⟨h2, ?_⟩
              refine Or.inl ⟨_, ?_, rfl⟩
              go_simp
              first | (go_bits; rfl) | rfl | (rw [if_pos (by omega)])
            refine ⟨⟨⟨_, _, _, _, _, _⟩, _, Is ?vC5, (some (some 54, true)), [(some 56, Is ?vC4), (some 54, Is ?vC2)], [], rfl, rfl, rfl, rfl, rfl, trivial, ?_⟩, ?_⟩
            · intro a w1 hC  (h4 : a.tmps.getD 56 undef = _) (h2 : a.tmps.getD 54 undef = _)
              refine Or.inl ⟨h2, ?_⟩
              refine Or.inl ⟨_, ?_, rfl⟩
              go_simp
              first | (go_bits; rfl) | rfl | (rw [if_pos (by omega)])
            refine ⟨⟨⟨_, _, _, _, _, _⟩, _, Is ?vC6, (some (some 54, true)), [(some 57, Is ?vC5), (some 54, Is ?vC2)], [], rfl, rfl, rfl, rfl, rfl, trivial, ?_⟩, ?_⟩
            · intro a w1 hC  (h5 : a.tmps.getD 57 undef = _) (h2 : a.tmps.getD 54 undef = _)
              refine Or.inl ⟨h2, ?_⟩
              refine Or.inl ⟨_, ?_, rfl⟩
              go_simp
              first | (go_bits; rfl) | rfl | (rw [if_pos (by omega)])
            refine ⟨⟨⟨_, _, _, _, _, _⟩, _, Is ?vC7, (some (some 54, true)), [(some 58, Is ?vC6), (some 54, Is ?vC2)], [], rfl, rfl, rfl, rfl, rfl, trivial, ?_⟩, ?_⟩
            · intro a w1 hC  (h6 : a.tmps.getD 58 undef = _) (h2 : a.tmps.getD 54 undef = _)
              refine Or.inl ⟨h2, ?_⟩
              refine Or.inl ⟨_, ?_, rfl⟩
              go_simp
              first | (go_bits; rfl) | rfl | (rw [if_pos (by omega)])
            refine ⟨⟨⟨_, _, _, _, _, _⟩, _, Is ?vC8, (some (some 54, true)), [(some 55, Is ?vC3), (some 59, Is ?vC7), (some 54, Is ?vC2)], [], rfl, rfl, rfl, rfl, rfl, trivial, ?_⟩, ?_⟩
            · intro a w1 hC  (h3 : a.tmps.getD 55 undef = _) (h7 : a.tmps.getD 59 undef = _) (h2 : a.tmps.getD 54 undef = _)
              refine Or.inl ⟨h2, ?_⟩
              refine Or.inl ⟨_, ?_, rfl⟩
              go_simp
              first | (go_bits; rfl) | rfl | (rw [if_pos (by omega)])
            refine ⟨⟨⟨_, _, _, _, _, _⟩, _, Is ?vC9, (some (some 54, true)), [(some 60, Is ?vC8), (some 54, Is ?vC2), (some 54, Is ?vC2)], [], rfl, rfl, rfl, rfl, rfl, trivial, ?_⟩, ?_⟩
            · intro a w1 hC  (h8 : a.tmps.getD 60 undef = _) (h2 : a.tmps.getD 54 undef = _) _
              refine Or.inl ⟨h2, ?_⟩
              refine Or.inl ⟨_, ?_, rfl⟩
              go_simp
              first | (go_bits; rfl) | rfl | (rw [if_pos (by omega)])
            refine ⟨⟨⟨_, _, _, _, _, _⟩, _, Is ?vC10, (some (some 61, false)), [(some 61, Is ?vC9)], [(9, .int .i64 v)], rfl, rfl, rfl, rfl, rfl, ⟨⟨by kernel_rfl, rfl⟩, trivial⟩, ?_⟩, ?_⟩
            · intro a w1 hC e9 (h9 : a.tmps.getD 61 undef = _)
              refine Or.inl ⟨h9, ?_⟩
              refine Or.inl ⟨_, ?_, rfl⟩
              go_simp
              first | (go_bits; rfl) | rfl | (rw [if_pos (by omega)])
            refine ⟨⟨⟨_, _, _, _, _, _⟩, _, Is ?vC11, (some (some 61, false)), [(some 61, Is ?vC9)], [(1, .int .i64 bits)], rfl, rfl, rfl, rfl, rfl, ⟨⟨by kernel_rfl, rfl⟩, trivial⟩, ?_⟩, ?_⟩
            · intro a w1 hC e1 (h9 : a.tmps.getD 61 undef = _)
              refine Or.inl ⟨h9, ?_⟩
              refine Or.inl ⟨_, ?_, rfl⟩
              go_simp
              first | (go_bits; rfl) | rfl | (rw [if_pos (by omega)])
            refine ⟨⟨⟨_, _, _, _, _, _⟩, _, Is ?vC12, (some (some 61, false)), [(some 63, Is ?vC11), (some 61, Is ?vC9)], [], rfl, rfl, rfl, rfl, rfl, trivial, ?_⟩, ?_⟩
            · intro a w1 hC  (h11 : a.tmps.getD 63 undef = _) (h9 : a.tmps.getD 61 undef = _)
              refine Or.inl ⟨h9, ?_⟩
              refine Or.inl ⟨_, ?_, rfl⟩
              go_simp
              first | (go_bits; rfl) | rfl | (rw [if_pos (by omega)])
            refine ⟨⟨⟨_, _, _, _, _, _⟩, _, Is ?vC13, (some (some 61, false)), [(some 64, Is ?vC12), (some 61, Is ?vC9)], [], rfl, rfl, rfl, rfl, rfl, trivial, ?_⟩, ?_⟩
            · intro a w1 hC  (h12 : a.tmps.getD 64 undef = _) (h9 : a.tmps.getD 61 undef = _)
              refine Or.inl ⟨h9, ?_⟩
              refine Or.inl ⟨_, ?_, rfl⟩
              go_simp
              first | (go_bits; rfl) | rfl | (rw [if_pos (by omega)])
            refine ⟨⟨⟨_, _, _, _, _, _⟩, _, Is ?vC14, (some (some 61, false)), [(some 65, Is ?vC13), (some 61, Is ?vC9)], [], rfl, rfl, rfl, rfl, rfl, trivial, ?_⟩, ?_⟩
            · intro a w1 hC  (h13 : a.tmps.getD 65 undef = _) (h9 : a.tmps.getD 61 undef = _)
              refine Or.inl ⟨h9, ?_⟩
              refine Or.inl ⟨_, ?_, rfl⟩
              go_simp
              first | (go_bits; rfl) | rfl | (rw [if_pos (by omega)])
            refine ⟨⟨⟨_, _, _, _, _, _⟩, _, Is ?vC15, (some (some 61, false)), [(some 62, Is ?vC10), (some 66, Is ?vC14), (some 61, Is ?vC9)], [], rfl, rfl, rfl, rfl, rfl, trivial, ?_⟩, ?_⟩
            · intro a w1 hC  (h10 : a.tmps.getD 62 undef = _) (h14 : a.tmps.getD 66 undef = _) (h9 : a.tmps.getD 61 undef = _)
              refine Or.inl ⟨h9, ?_⟩
              refine Or.inl ⟨_, ?_, rfl⟩
              go_simp
              first | (go_bits; rfl) | rfl | (rw [if_pos (by omega)])
            refine ⟨⟨⟨_, _, _, _, _, _⟩, _, Is ?vC16, (some (some 54, true)), [(some 61, Is ?vC9), (some 67, Is ?vC15), (some 54, Is ?vC2)], [], rfl, rfl, rfl, rfl, rfl, trivial, ?_⟩, ?_⟩
            · intro a w1 hC  (h9 : a.tmps.getD 61 undef = _) (h15 : a.tmps.getD 67 undef = _) (h2 : a.tmps.getD 54 undef = _)
              refine Or.inl ⟨h2, ?_⟩
              refine Or.inl ⟨_, ?_, rfl⟩
              go_simp
              first | (go_bits; rfl) | rfl | (rw [if_pos (by omega)])
            refine ⟨⟨⟨_, _, _, _, _, _⟩, _, Is ?vC17, none, [(some 54, Is ?vC2), (some 68, Is ?vC16)], [], rfl, rfl, rfl, rfl, rfl, trivial, ?_⟩, ?_⟩
            · intro a w1 hC  (h2 : a.tmps.getD 54 undef = _) (h16 : a.tmps.getD 68 undef = _)
              refine Or.inl ⟨_, ?_, rfl⟩
              go_simp
              first | (go_bits; rfl) | rfl | (rw [if_pos (by omega)])
            refine ⟨⟨⟨_, _, _, _, _, _⟩, _, Is ?vC18, none, [(some 69, Is ?vC17), (some 61, Is ?vC9)], [], rfl, rfl, rfl, rfl, rfl, trivial, ?_⟩, ?_⟩
            · intro a w1 hC  (h17 : a.tmps.getD 69 undef = _) (h9 : a.tmps.getD 61 undef = _)
              refine Or.inl ⟨_, ?_, rfl⟩
              go_simp
              first | (go_bits; rfl) | rfl | (rw [if_pos (by omega)])
            refine ⟨⟨⟨_, _, _, _, _, _⟩, _, Is ?vC19, (some (some 70, false)), [(some 70, Is ?vC18)], [(9, .int .i64 v)], rfl, rfl, rfl, rfl, rfl, ⟨⟨by kernel_rfl, rfl⟩, trivial⟩, ?_⟩, ?_⟩
            · intro a w1 hC e9 (h18 : a.tmps.getD 70 undef = _)
              refine Or.inl ⟨h18, ?_⟩
              refine Or.inl ⟨_, ?_, rfl⟩
              go_simp
              first | (go_bits; rfl) | rfl | (rw [if_pos (by omega)])
            refine ⟨⟨⟨_, _, _, _, _, _⟩, _, IsRd .u8 (encS 9 v), (some (some 70, false)), [(some 71, Is ?vC19), (some 70, Is ?vC18), (some 70, Is ?vC18)], [], rfl, rfl, rfl, rfl, rfl, trivial, ?_⟩, ?_⟩
            · intro a w1 hC  (h19 : a.tmps.getD 71 undef = _) (h18 : a.tmps.getD 70 undef = _) _
              refine Or.inl ⟨h18, ?_⟩
              refine Or.inr (Or.inl ⟨43, #[.int .i64 v], ?_, ?_⟩)
              · go_simp
              · refine (refS_any v w1 hv0 hv1).mono ?_
                rintro e w2 ⟨vv, rfl, hown, hbel⟩
                obtain ⟨ao1, cap1, rfl, hrd⟩ := hown.rd
                exact ⟨_, rfl, ⟨ao1, cap1, rfl, hrd⟩, hbel⟩
            refine ⟨⟨⟨_, _, _, _, _, _⟩, _, Is (.string s1), (some (some 70, false)), [(some 72, IsRd .u8 (encS 9 v)), (some 70, Is ?vC18)], [], rfl, rfl, rfl, rfl, rfl, trivial, ?_⟩, ?_⟩
            · intro a w1 hC  h20 (h18 : a.tmps.getD 70 undef = _)
              refine Or.inl ⟨h18, ?_⟩
              obtain ⟨ao1, cap1, e20, hrd⟩ := h20
              refine Or.inl ⟨.string s1, ?_, rfl⟩
              have e20 : a.tmps.getD 72 undef = _ := e20
              have c := conv_str (P := Try.prog) hrd 41 9 5 Try.underlying41 Try.underlying5 Try.underlying9
              rw [← Hs1.out] at c
              go_simp
            refine ⟨⟨⟨_, _, _, _, _, _⟩, _, Is ?vC22, (some (some 70, false)), [(some 70, Is ?vC18)], [(0, .slice (some ⟨b, off, none⟩) n cap)], rfl, rfl, rfl, rfl, rfl, ⟨⟨by kernel_rfl, rfl⟩, trivial⟩, ?_⟩, ?_⟩
            · intro a w1 hC e0 (h18 : a.tmps.getD 70 undef = _)
              refine Or.inl ⟨h18, ?_⟩
              refine Or.inl ⟨_, ?_, rfl⟩
              go_simp
              first | (go_bits; rfl) | rfl | (rw [if_pos (by omega)])
            refine ⟨⟨⟨_, _, _, _, _, _⟩, _, Is ?vC23, (some (some 70, false)), [(some 70, Is ?vC18)], [(7, .int .i64 (k + 1))], rfl, rfl, rfl, rfl, rfl, ⟨⟨by kernel_rfl, rfl⟩, trivial⟩, ?_⟩, ?_⟩
            · intro a w1 hC e7 (h18 : a.tmps.getD 70 undef = _)
              refine Or.inl ⟨h18, ?_⟩
              refine Or.inl ⟨_, ?_, rfl⟩
              go_simp
              first | (go_bits; rfl) | rfl | (rw [if_pos (by omega)])
            refine ⟨⟨⟨_, _, _, _, _, _⟩, _, Is ?vC24, (some (some 70, false)), [(some 74, Is ?vC22), (some 75, Is ?vC23), (some 70, Is ?vC18)], [], rfl, rfl, rfl, rfl, rfl, trivial, ?_⟩, ?_⟩
            · intro a w1 hC  (h22 : a.tmps.getD 74 undef = _) (h23 : a.tmps.getD 75 undef = _) (h18 : a.tmps.getD 70 undef = _)
              refine Or.inl ⟨h18, ?_⟩
              refine Or.inl ⟨_, ?_, rfl⟩
              go_simp
              first | (go_bits; rfl) | rfl | (rw [if_pos (by omega)])
            refine ⟨⟨⟨_, _, _, _, _, _⟩, _, Is (.string s0), (some (some 70, false)), [(some 76, Is ?vC24), (some 70, Is ?vC18)], [], rfl, rfl, rfl, rfl, rfl, trivial, ?_⟩, ?_⟩
            · intro a w1 hC  (h24 : a.tmps.getD 76 undef = _) (h18 : a.tmps.getD 70 undef = _)
              refine Or.inl ⟨h18, ?_⟩
              refine Or.inl ⟨.string s0, ?_, rfl⟩
              have c := conv_str (P := Try.prog) ((Hr.out.below hC).upto (i := k + 1) (by omega)) 41 9 5 Try.underlying41 Try.underlying5 Try.underlying9
              rw [← Hs0.out] at c
              go_simp
            refine ⟨⟨⟨_, _, _, _, _, _⟩, _, Is ?vC26, (some (some 70, false)), [(some 73, Is (.string s1)), (some 77, Is (.string s0)), (some 70, Is ?vC18)], [], rfl, rfl, rfl, rfl, rfl, trivial, ?_⟩, ?_⟩
            · intro a w1 hC  (h21 : a.tmps.getD 73 undef = _) (h25 : a.tmps.getD 77 undef = _) (h18 : a.tmps.getD 70 undef = _)
              refine Or.inl ⟨h18, ?_⟩
              refine Or.inl ⟨_, ?_, rfl⟩
              go_simp
              first | (go_bits; rfl) | rfl | (rw [if_pos (by omega)])
            refine ⟨⟨⟨_, _, _, _, _, _⟩, _, Is ?vC27, none, [(some 70, Is ?vC18), (some 78, Is ?vC26)], [], rfl, rfl, rfl, rfl, rfl, trivial, ?_⟩, ?_⟩
            · intro a w1 hC  (h18 : a.tmps.getD 70 undef = _) (h26 : a.tmps.getD 78 undef = _)
              refine Or.inl ⟨_, ?_, rfl⟩
              go_simp
              first | (go_bits; rfl) | rfl | (rw [if_pos (by omega)])
            exact trivial
          case hstC => exact ⟨Stays.is _, Stays.is _, Stays.is _, Stays.is _, Stays.is _, Stays.is _, Stays.is _, Stays.is _, Stays.is _, Stays.is _, Stays.is _, Stays.is _, Stays.is _, Stays.is _, Stays.is _, Stays.is _, Stays.is _, Stays.is _, Stays.is _, Stays.is _, Stays.rd _ _, Stays.is _, Stays.is _, Stays.is _, Stays.is _, Stays.is _, Stays.is _, Stays.is _, trivial⟩
          case hendC =>
            intro w1 hC
            rintro _ rfl
            rintro _ rfl
            rintro _ rfl
            rintro _ rfl
            rintro _ rfl
            rintro _ rfl
            rintro _ rfl
            rintro _ rfl
            rintro _ rfl
            rintro _ rfl
            rintro _ rfl
            rintro _ rfl
            rintro _ rfl
            rintro _ rfl
            rintro _ rfl
            rintro _ rfl
            rintro _ rfl
            rintro _ rfl
            rintro _ rfl
            rintro _ rfl
            intro x20 h20
            rintro _ rfl
            rintro _ rfl
            rintro _ rfl
            rintro _ rfl
            rintro _ rfl
            rintro _ rfl
            rintro _ rfl
            simp only [Ends, Act.put, List.setIfInBounds_toArray, List.set_cons_succ, List.set_cons_zero]
            go_wp2_with fail
            · have hne : (!s1.toList == s0.toList) = true := by assumption
              have hng : ¬ goodS xs bits k := fun h => by rw [Hiff.out.2 h] at hne; simp at hne
              go_ret3
              exact ⟨fun h => absurd h hng, fun _ => rfl, hC⟩
            · have hne : (!s1.toList == s0.toList) = false := by assumption
              have hg : goodS xs bits k := Hiff.out.1 (str_eq (by simpa using hne))
              go_ret3
              exact ⟨fun _ => by rw [← Hv.out hg]; rfl, fun h => absurd hg h, hC⟩
      · have hpv : p = 9223372036854775808 := by
          rw [hpp, show bits = 64 from by omega]; decide
        have hiff : strOfNums (encS 9 v) = strOfNums (xs.take (k + 1)) ↔ goodS xs bits k := by
          rw [Hiff0.out, Hgd.out, hpv]
          exact ⟨fun ⟨h, e⟩ => ⟨h, by rw [← e]; exact ⟨hv0, by omega⟩⟩, fun h => ⟨h.1, Hv.out (Hgd.out.2 (by rw [hpv]; exact h))⟩⟩
        obtain ⟨s0, hs0⟩ : ∃ s0, s0 = strOfNums (xs.take (k + 1)) := ⟨_, rfl⟩
        obtain ⟨s1, hs1'⟩ : ∃ s1, s1 = strOfNums (encS 9 v) := ⟨_, rfl⟩
        rw [← hs0, ← hs1'] at hiff
        have Hs0 := hid hs0
        have Hs1 := hid hs1'
        have Hr := hid hr
        have Hiff := hid hiff
        have hd1 : decide (bits < 64) = false := decide_eq_false hb64
        clear hs0 hs1' hr hiff hpv hpp
        go_wp2_with fail
        refine wp_region_below (by kernel_rfl) [Is ?vD0, Is ?vD1, Is ?vD2, Is ?vD3, Is ?vD4, Is ?vD5, Is ?vD6, Is ?vD7, Is ?vD8, Is ?vD9, Is ?vD10, Is ?vD11, Is ?vD12, Is ?vD13, Is ?vD14, Is ?vD15, Is ?vD16, Is ?vD17, Is ?vD18, Is ?vD19, IsRd .u8 (encS 9 v), Is (.string s1), Is ?vD22, Is ?vD23, Is ?vD24, Is (.string s0), Is ?vD26, Is ?vD27] [0, 1, 2, 3, 4, 5, 6, 7, 8, 9, 10, 11, 12, 13, 14, 15, 16, 17, 18, 19, 20, 21, 22, 23, 24, 25, 26, 27] rfl (by kernel_rfl) rfl ?hopD ?hstD ?hendD
        case hopD =>
          refine ⟨⟨⟨_, _, _, _, _, _⟩, _, Is ?vD0, none, [], [(1, .int .i64 bits)], rfl, rfl, rfl, rfl, rfl, ⟨⟨by kernel_rfl, rfl⟩, trivial⟩, ?_⟩, ?_⟩
          · intro a w1 hC e1
            refine Or.inl ⟨_, ?_, rfl⟩
            go_simp
            first | (go_bits; rfl) | rfl | (rw [if_pos (by omega)])
          refine ⟨⟨⟨_, _, _, _, _, _⟩, _, Is ?vD1, none, [(some 52, Is ?vD0)], [], rfl, rfl, rfl, rfl, rfl, trivial, ?_⟩, ?_⟩
          · intro a w1 hC  (h0 : a.tmps.getD 52 undef = _)
            refine Or.inl ⟨_, ?_, rfl⟩
            go_simp
            first | (go_bits; rfl) | rfl | (rw [if_pos (by omega)])
          refine ⟨⟨⟨_, _, _, _, _, _⟩, _, Is ?vD2, none, [(some 53, Is ?vD1)], [], rfl, rfl, rfl, rfl, rfl, trivial, ?_⟩, ?_⟩
          · intro a w1 hC  (h1 : a.tmps.getD 53 undef = _)
            refine Or.inl ⟨_, ?_, rfl⟩
            go_simp
            first | (go_bits; rfl) | rfl | (rw [if_pos (by omega)])
          refine ⟨⟨⟨_, _, _, _, _, _⟩, _, Is ?vD3, (some (some 54, true)), [(some 54, Is ?vD2)], [(9, .int .i64 v)], rfl, rfl, rfl, rfl, rfl, ⟨⟨by kernel_rfl, rfl⟩, trivial⟩, ?_⟩, ?_⟩
          · intro a w1 hC e9 (h2 : a.tmps.getD 54 undef = _)
            refine Or.inr ⟨fun hh => ?_, ?_⟩
            · have := h2.symm.trans hh; cases this
            · rfl
          refine ⟨⟨⟨_, _, _, _, _, _⟩, _, Is ?vD4, (some (some 54, true)), [(some 54, Is ?vD2)], [(1, .int .i64 bits)], rfl, rfl, rfl, rfl, rfl, ⟨⟨by kernel_rfl, rfl⟩, trivial⟩, ?_⟩, ?_⟩
          · intro a w1 hC e1 (h2 : a.tmps.getD 54 undef = _)
            refine Or.inr ⟨fun hh => ?_, ?_⟩
            · have := h2.symm.trans hh; cases this
            · rfl
          refine ⟨⟨⟨_, _, _, _, _, _⟩, _, Is ?vD5, (some (some 54, true)), [(some 56, Is ?vD4), (some 54, Is ?vD2)], [], rfl, rfl, rfl, rfl, rfl, trivial, ?_⟩, ?_⟩
          · intro a w1 hC  (h4 : a.tmps.getD 56 undef = _) (h2 : a.tmps.getD 54 undef = _)
            refine Or.inr ⟨fun hh => ?_, ?_⟩
            · have := h2.symm.trans hh; cases this
            · rfl
          refine ⟨⟨⟨_, _, _, _, _, _⟩, _, Is ?vD6, (some (some 54, true)), [(some 57, Is ?vD5), (some 54, Is ?vD2)], [], rfl, rfl, rfl, rfl, rfl, trivial, ?_⟩, ?_⟩
          · intro a w1 hC  (h5 : a.tmps.getD 57 undef = _) (h2 : a.tmps.getD 54 undef = _)
            refine Or.inr ⟨fun hh => ?_, ?_⟩
            · have := h2.symm.trans hh; cases this
            · rfl
          refine ⟨⟨⟨_, _, _, _, _, _⟩, _, Is ?vD7, (some (some 54, true)), [(some 58, Is ?vD6), (some 54, Is ?vD2)], [], rfl, rfl, rfl, rfl, rfl, trivial, ?_⟩, ?_⟩
          · intro a w1 hC  (h6 : a.tmps.getD 58 undef = _) (h2 : a.tmps.getD 54 undef = _)
            refine Or.inr ⟨fun hh => ?_, ?_⟩
            · have := h2.symm.trans hh; cases this
            · rfl
          refine ⟨⟨⟨_, _, _, _, _, _⟩, _, Is ?vD8, (some (some 54, true)), [(some 55, Is ?vD3), (some 59, Is ?vD7), (some 54, Is ?vD2)], [], rfl, rfl, rfl, rfl, rfl, trivial, ?_⟩, ?_⟩
          · intro a w1 hC  (h3 : a.tmps.getD 55 undef = _) (h7 : a.tmps.getD 59 undef = _) (h2 : a.tmps.getD 54 undef = _)
            refine Or.inr ⟨fun hh => ?_, ?_⟩
            · have := h2.symm.trans hh; cases this
            · rfl
          refine ⟨⟨⟨_, _, _, _, _, _⟩, _, Is ?vD9, (some (some 54, true)), [(some 60, Is ?vD8), (some 54, Is ?vD2), (some 54, Is ?vD2)], [], rfl, rfl, rfl, rfl, rfl, trivial, ?_⟩, ?_⟩
          · intro a w1 hC  (h8 : a.tmps.getD 60 undef = _) (h2 : a.tmps.getD 54 undef = _) _
            refine Or.inr ⟨fun hh => ?_, ?_⟩
            · have := h2.symm.trans hh; cases this
            · rfl
          refine ⟨⟨⟨_, _, _, _, _, _⟩, _, Is ?vD10, (some (some 61, false)), [(some 61, Is ?vD9)], [(9, .int .i64 v)], rfl, rfl, rfl, rfl, rfl, ⟨⟨by kernel_rfl, rfl⟩, trivial⟩, ?_⟩, ?_⟩
          · intro a w1 hC e9 (h9 : a.tmps.getD 61 undef = _)
            refine Or.inr ⟨fun hh => ?_, ?_⟩
            · have := h9.symm.trans hh; cases this
            · rfl
          refine ⟨⟨⟨_, _, _, _, _, _⟩, _, Is ?vD11, (some (some 61, false)), [(some 61, Is ?vD9)], [(1, .int .i64 bits)], rfl, rfl, rfl, rfl, rfl, ⟨⟨by kernel_rfl, rfl⟩, trivial⟩, ?_⟩, ?_⟩
          · intro a w1 hC e1 (h9 : a.tmps.getD 61 undef = _)
            refine Or.inr ⟨fun hh => ?_, ?_⟩
            · have := h9.symm.trans hh; cases this
            · rfl
          refine ⟨⟨⟨_, _, _, _, _, _⟩, _, Is ?vD12, (some (some 61, false)), [(some 63, Is ?vD11), (some 61, Is ?vD9)], [], rfl, rfl, rfl, rfl, rfl, trivial, ?_⟩, ?_⟩
          · intro a w1 hC  (h11 : a.tmps.getD 63 undef = _) (h9 : a.tmps.getD 61 undef = _)
            refine Or.inr ⟨fun hh => ?_, ?_⟩
            · have := h9.symm.trans hh; cases this
            · rfl
          refine ⟨⟨⟨_, _, _, _, _, _⟩, _, Is ?vD13, (some (some 61, false)), [(some 64, Is ?vD12), (some 61, Is ?vD9)], [], rfl, rfl, rfl, rfl, rfl, trivial, ?_⟩, ?_⟩
          · intro a w1 hC  (h12 : a.tmps.getD 64 undef = _) (h9 : a.tmps.getD 61 undef = _)
            refine Or.inr ⟨fun hh => ?_, ?_⟩
            · have := h9.symm.trans hh; cases this
            · rfl
          refine ⟨⟨⟨_, _, _, _, _, _⟩, _, Is ?vD14, (some (some 61, false)), [(some 65, Is ?vD13), (some 61, Is ?vD9)], [], rfl, rfl, rfl, rfl, rfl, trivial, ?_⟩, ?_⟩
          · intro a w1 hC  (h13 : a.tmps.getD 65 undef = _) (h9 : a.tmps.getD 61 undef = _)
            refine Or.inr ⟨fun hh => ?_, ?_⟩
            · have := h9.symm.trans hh; cases this
            · rfl
          refine ⟨⟨⟨_, _, _, _, _, _⟩, _, Is ?vD15, (some (some 61, false)), [(some 62, Is ?vD10), (some 66, Is ?vD14), (some 61, Is ?vD9)], [], rfl, rfl, rfl, rfl, rfl, trivial, ?_⟩, ?_⟩
          · intro a w1 hC  (h10 : a.tmps.getD 62 undef = _) (h14 : a.tmps.getD 66 undef = _) (h9 : a.tmps.getD 61 undef = _)
            refine Or.inr ⟨fun hh => ?_, ?_⟩
            · have := h9.symm.trans hh; cases this
            · rfl
          refine ⟨⟨⟨_, _, _, _, _, _⟩, _, Is ?vD16, (some (some 54, true)), [(some 61, Is ?vD9), (some 67, Is ?vD15), (some 54, Is ?vD2)], [], rfl, rfl, rfl, rfl, rfl, trivial, ?_⟩, ?_⟩
          · intro a w1 hC  (h9 : a.tmps.getD 61 undef = _) (h15 : a.tmps.getD 67 undef = _) (h2 : a.tmps.getD 54 undef = _)
            refine Or.inr ⟨fun hh => ?_, ?_⟩
            · have := h2.symm.trans hh; cases this
            · rfl
          refine ⟨⟨⟨_, _, _, _, _, _⟩, _, Is ?vD17, none, [(some 54, Is ?vD2), (some 68, Is ?vD16)], [], rfl, rfl, rfl, rfl, rfl, trivial, ?_⟩, ?_⟩
          · intro a w1 hC  (h2 : a.tmps.getD 54 undef = _) (h16 : a.tmps.getD 68 undef = _)
            refine Or.inl ⟨_, ?_, rfl⟩
            go_simp
            first | (go_bits; rfl) | rfl | (rw [if_pos (by omega)])
          refine ⟨⟨⟨_, _, _, _, _, _⟩, _, Is ?vD18, none, [(some 69, Is ?vD17), (some 61, Is ?vD9)], [], rfl, rfl, rfl, rfl, rfl, trivial, ?_⟩, ?_⟩
          · intro a w1 hC  (h17 : a.tmps.getD 69 undef = _) (h9 : a.tmps.getD 61 undef = _)
            refine Or.inl ⟨_, ?_, rfl⟩
            go_simp
            first | (go_bits; rfl) | rfl | (rw [if_pos (by omega)])
          refine ⟨⟨⟨_, _, _, _, _, _⟩, _, Is ?vD19, (some (some 70, false)), [(some 70, Is ?vD18)], [(9, .int .i64 v)], rfl, rfl, rfl, rfl, rfl, ⟨⟨by kernel_rfl, rfl⟩, trivial⟩, ?_⟩, ?_⟩
          · intro a w1 hC e9 (h18 : a.tmps.getD 70 undef = _)
            refine Or.inl ⟨h18, ?_⟩
            refine Or.inl ⟨_, ?_, rfl⟩
            go_simp
            first | (go_bits; rfl) | rfl | (rw [if_pos (by omega)])
          refine ⟨⟨⟨_, _, _, _, _, _⟩, _, IsRd .u8 (encS 9 v), (some (some 70, false)), [(some 71, Is ?vD19), (some 70, Is ?vD18), (some 70, Is ?vD18)], [], rfl, rfl, rfl, rfl, rfl, trivial, ?_⟩, ?_⟩
          · intro a w1 hC  (h19 : a.tmps.getD 71 undef = _) (h18 : a.tmps.getD 70 undef = _) _
            refine Or.inl ⟨h18, ?_⟩
            refine Or.inr (Or.inl ⟨43, #[.int .i64 v], ?_, ?_⟩)
            · go_simp
            · refine (refS_any v w1 hv0 hv1).mono ?_
              rintro e w2 ⟨vv, rfl, hown, hbel⟩
              obtain ⟨ao1, cap1, rfl, hrd⟩ := hown.rd
              exact ⟨_, rfl, ⟨ao1, cap1, rfl, hrd⟩, hbel⟩
          refine ⟨⟨⟨_, _, _, _, _, _⟩, _, Is (.string s1), (some (some 70, false)), [(some 72, IsRd .u8 (encS 9 v)), (some 70, Is ?vD18)], [], rfl, rfl, rfl, rfl, rfl, trivial, ?_⟩, ?_⟩
          · intro a w1 hC  h20 (h18 : a.tmps.getD 70 undef = _)
            refine Or.inl ⟨h18, ?_⟩
            obtain ⟨ao1, cap1, e20, hrd⟩ := h20
            refine Or.inl ⟨.string s1, ?_, rfl⟩
            have e20 : a.tmps.getD 72 undef = _ := e20
            have c := conv_str (P := Try.prog) hrd 41 9 5 Try.underlying41 Try.underlying5 Try.underlying9
            rw [← Hs1.out] at c
            go_simp
          refine ⟨⟨⟨_, _, _, _, _, _⟩, _, Is ?vD22, (some (some 70, false)), [(some 70, Is ?vD18)], [(0, .slice (some ⟨b, off, none⟩) n cap)], rfl, rfl, rfl, rfl, rfl, ⟨⟨by kernel_rfl, rfl⟩, trivial⟩, ?_⟩, ?_⟩
          · intro a w1 hC e0 (h18 : a.tmps.getD 70 undef = _)
            refine Or.inl ⟨h18, ?_⟩
            refine Or.inl ⟨_, ?_, rfl⟩
            go_simp
            first | (go_bits; rfl) | rfl | (rw [if_pos (by omega)])
          refine ⟨⟨⟨_, _, _, _, _, _⟩, _, Is ?vD23, (some (some 70, false)), [(some 70, Is ?vD18)], [(7, .int .i64 (k + 1))], rfl, rfl, rfl, rfl, rfl, ⟨⟨by kernel_rfl, rfl⟩, trivial⟩, ?_⟩, ?_⟩
          · intro a w1 hC e7 (h18 : a.tmps.getD 70 undef = _)
            refine Or.inl ⟨h18, ?_⟩
            refine Or.inl ⟨_, ?_, rfl⟩
            go_simp
            first | (go_bits; rfl) | rfl | (rw [if_pos (by omega)])
          refine ⟨⟨⟨_, _, _, _, _, _⟩, _, Is ?vD24, (some (some 70, false)), [(some 74, Is ?vD22), (some 75, Is ?vD23), (some 70, Is ?vD18)], [], rfl, rfl, rfl, rfl, rfl, trivial, ?_⟩, ?_⟩
          · intro a w1 hC  (h22 : a.tmps.getD 74 undef = _) (h23 : a.tmps.getD 75 undef = _) (h18 : a.tmps.getD 70 undef = _)
            refine Or.inl ⟨h18, ?_⟩
            refine Or.inl ⟨_, ?_, rfl⟩
            go_simp
            first | (go_bits; rfl) | rfl | (rw [if_pos (by omega)])
          refine ⟨⟨⟨_, _, _, _, _, _⟩, _, Is (.string s0), (some (some 70, false)), [(some 76, Is ?vD24), (some 70, Is ?vD18)], [], rfl, rfl, rfl, rfl, rfl, trivial, ?_⟩, ?_⟩
          · intro a w1 hC  (h24 : a.tmps.getD 76 undef = _) (h18 : a.tmps.getD 70 undef = _)
            refine Or.inl ⟨h18, ?_⟩
            refine Or.inl ⟨.string s0, ?_, rfl⟩
            have c := conv_str (P := Try.prog) ((Hr.out.below hC).upto (i := k + 1) (by omega)) 41 9 5 Try.underlying41 Try.underlying5 Try.underlying9
            rw [← Hs0.out] at c
            go_simp
          refine ⟨⟨⟨_, _, _, _, _, _⟩, _, Is ?vD26, (some (some 70, false)), [(some 73, Is (.string s1)), (some 77, Is (.string s0)), (some 70, Is ?vD18)], [], rfl, rfl, rfl, rfl, rfl, trivial, ?_⟩, ?_⟩
          · intro a w1 hC  (h21 : a.tmps.getD 73 undef = _) (h25 : a.tmps.getD 77 undef = _) (h18 : a.tmps.getD 70 undef = _)
            refine Or.inl ⟨h18, ?_⟩
            refine Or.inl ⟨_, ?_, rfl⟩
            go_simp
            first | (go_bits; rfl) | rfl | (rw [if_pos (by omega)])
          refine ⟨⟨⟨_, _, _, _, _, _⟩, _, Is ?vD27, none, [(some 70, Is ?vD18), (some 78, Is ?vD26)], [], rfl, rfl, rfl, rfl, rfl, trivial, ?_⟩, ?_⟩
          · intro a w1 hC  (h18 : a.tmps.getD 70 undef = _) (h26 : a.tmps.getD 78 undef = _)
            refine Or.inl ⟨_, ?_, rfl⟩
            go_simp
            first | (go_bits; rfl) | rfl | (rw [if_pos (by omega)])
          exact trivial
        case hstD => exact ⟨Stays.is _, Stays.is _, Stays.is _, Stays.is _, Stays.is _, Stays.is _, Stays.is _, Stays.is _, Stays.is _, Stays.is _, Stays.is _, Stays.is _, Stays.is _, Stays.is _, Stays.is _, Stays.is _, Stays.is _, Stays.is _, Stays.is _, Stays.is _, Stays.rd _ _, Stays.is _, Stays.is _, Stays.is _, Stays.is _, Stays.is _, Stays.is _, Stays.is _, trivial⟩
        case hendD =>
          intro w1 hC
          rintro _ rfl
          rintro _ rfl
          rintro _ rfl
          rintro _ rfl
          rintro _ rfl
          rintro _ rfl
          rintro _ rfl
          rintro _ rfl
          rintro _ rfl
          rintro _ rfl
          rintro _ rfl
          rintro _ rfl
          rintro _ rfl
          rintro _ rfl
          rintro _ rfl
          rintro _ rfl
          rintro _ rfl
          rintro _ rfl
          rintro _ rfl
          rintro _ rfl
          intro x20 h20
          rintro _ rfl
          rintro _ rfl
          rintro _ rfl
          rintro _ rfl
          rintro _ rfl
          rintro _ rfl
          rintro _ rfl
          simp only [Ends, Act.put, List.setIfInBounds_toArray, List.set_cons_succ, List.set_cons_zero]
          go_wp2_with fail
          · have hne : (!s1.toList == s0.toList) = true := by assumption
            have hng : ¬ goodS xs bits k := fun h => by rw [Hiff.out.2 h] at hne; simp at hne
            go_ret3
            exact ⟨fun h => absurd h hng, fun _ => rfl, hC⟩
          · have hne : (!s1.toList == s0.toList) = false := by assumption
            have hg : goodS xs bits k := Hiff.out.1 (str_eq (by simpa using hne))
            go_ret3
            exact ⟨fun _ => by rw [← Hv.out hg]; rfl, fun h => absurd hg h, hC⟩
      | succ j =>
      have hck' := Hc.out j (by omega)
      obtain ⟨y, hyk⟩ : ∃ y, y = xs.getD j 0 := ⟨_, rfl⟩
      have hby := hb.getD j
      rw [← hyk] at hck' hby
      have hV : sval ((xs.take (k + 1)).drop j) = y % 128 + 128 * sval ((xs.take (k + 1)).drop (j + 1)) := by
        have hjl : j < (xs.take (k + 1)).length := by simp; omega
        rw [List.drop_eq_getElem_cons hjl, sval_step _ _ (by
          intro h
          have := congrArg List.length h
          simp at this
          omega)]
        congr 1
        rw [hyk]
        simp [List.getD, show j < xs.length by omega]
      have hstep : wrap64 (wrap64 (v * 128) + y % 128) = wrap64 (sval ((xs.take (k + 1)).drop j)) := by
        rw [HV.out, hV]
        exact wrap64_step _ _
      have Hstep := hid hstep
      have hbd := wrap64_bd (wrap64 (v * 128) + y % 128)
      clear hyk hV hstep
      go_wp2
      go_round
      case rel =>
        exact ⟨j, wrap64 (wrap64 (v * 128) + y % 128), by go_num, rfl, by omega, hbd.1, hbd.2, Hstep.out⟩
      case measure => simp [intOf]

theorem GetS_go (hs : Stop xs m k) :
    Calls Try.prog 73 #[.slice ao n cap, .int .i64 bits] w fun e w' => (goodS xs bits k → e = .returned (.tuple #[.int .i64 (sval (xs.take (k + 1))), .int .i64 (k + 1), .int .i64 0])) ∧ (¬ goodS xs bits k → e = .returned (.tuple #[.int .i64 0, .int .i64 0, .int .i64 1])) ∧ Below w.heap.size w w' := by
  by_cases h : xs.getD k 0 < 64
  · exact GetS_lo ao n cap xs bits w hr h1 h2 m k hm hs h
  · exact GetS_hi ao n cap xs bits w hr h1 h2 m k hm hs (by omega)
end
end Go.Proofs.Ytfambbpggodlkaa
