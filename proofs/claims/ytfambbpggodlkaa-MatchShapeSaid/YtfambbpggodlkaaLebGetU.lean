import Derived.Test.YtfambbpggodlkaaLebWhole
import Derived.BigQuiet
import Derived.Deep.QuietTactic
import Derived.Test.YtfambbpggodlkaaRegion
namespace Go.Proofs.Ytfambbpggodlkaa
open Go.RowKit

theorem GetU_range (ao : Option Addr) (n cap : Nat) (bits : Int) (w : World) (h : bits < 1 ∨ 64 < bits) :
    Calls Try.prog 72 #[.slice ao n cap, .int .i64 bits] w fun e w' => e = .returned (.tuple #[.int .u64 0, .int .i64 0, .int .i64 3]) ∧ w = w' := by
  by_cases h1 : bits < 1
  · clear h
    go_enter Try.func72, Try.ntmps72
    go_wp2_with fail
    go_ret3
    exact ⟨rfl, rfl⟩
  · have h2 : 64 < bits := by omega
    clear h
    go_enter Try.func72, Try.ntmps72
    go_wp2_with fail
    go_ret3
    exact ⟨rfl, rfl⟩

theorem wrap_u64_le (n : Int) : IntKind.u64.wrap n ≤ 18446744073709551615 := by rw [IntKind.wrap_u64]; omega
theorem str_eq {a b : ByteArray} (h : a.toList = b.toList) : a = b := by
  rw [ByteArray.toList_eq, ByteArray.toList_eq] at h
  exact ByteArray.ext (Array.toList_inj.1 h)
theorem encU_bs (f : Nat) (u : Int) (h0 : 0 ≤ u) (hf : fitsU f u) : ∀ x ∈ encU f u, 0 ≤ x ∧ x ≤ 255 := by
  induction f generalizing u with
  | zero => intro x hx; simp [encU] at hx; simp only [fitsU] at hf; omega
  | succ f ih =>
    intro x hx
    by_cases hc : 128 ≤ u
    · rw [encU_big hc] at hx
      rcases List.mem_cons.1 hx with rfl | hx
      · omega
      · exact ih (u / 128) (by omega) (by simp only [fitsU] at hf; exact hf.resolve_left (by omega)) x hx
    · rw [encU_small hc] at hx
      simp at hx
      omega
theorem str_iffU {xs : List Int} {m k : Nat} (hs : Stop xs m k) (hb : Bs xs) (hk : k ≤ 9) (hv : val (xs.take (k + 1)) ≤ 18446744073709551615) : strOfNums (encU 9 (val (xs.take (k + 1)))) = strOfNums (xs.take (k + 1)) ↔ canU (xs.take (k + 1)) := by
  have hn := val_nonneg (xs.take (k + 1))
  refine ⟨fun h => ?_, fun h => ?_⟩
  · have := strOfNums_inj (encU_bs 9 _ hn (fits9 _ hn hv)) (fun y hy => hb y (List.mem_of_mem_take hy)) h
    rw [← this]
    exact encU_can 9 _ hn (fits9 _ hn hv)
  · rw [encU_of _ 9 (hs.shape hb) h (by simp; omega)]

section
variable (ao : Option Addr) (n cap : Nat) (xs : List Int) (bits : Int) (w : World) (hr : Rd .u8 w ao n cap xs) (h1 : 1 ≤ bits) (h2 : bits ≤ 64) (m k : Nat) (hm : (m : Int) = (bits + 6) / 7)
include hr h1 h2 hm

theorem GetU_form (hs : m ≤ xs.length ∧ ∀ i, i < m → 128 ≤ xs.getD i 0) :
    Calls Try.prog 72 #[.slice ao n cap, .int .i64 bits] w fun e w' => e = .returned (.tuple #[.int .u64 0, .int .i64 0, .int .i64 1]) ∧ w = w' := by
  have H := hid (whole_form ao n cap xs bits w hr h1 h2 m hm hs)
  clear hs hm
  go_enter Try.func72, Try.ntmps72
  go_wp2_with (go_at_call 79; refine H.out.mono ?_; rintro e w' ⟨rfl, rfl⟩)
  go_ret3
  exact ⟨rfl, rfl⟩
theorem GetU_more (hs : xs.length < m ∧ ∀ i, i < xs.length → 128 ≤ xs.getD i 0) :
    Calls Try.prog 72 #[.slice ao n cap, .int .i64 bits] w fun e w' => e = .returned (.tuple #[.int .u64 0, .int .i64 0, .int .i64 2]) ∧ w = w' := by
  have H := hid (whole_more ao n cap xs bits w hr h1 h2 m hm hs)
  clear hs hm
  go_enter Try.func72, Try.ntmps72
  go_wp2_with (go_at_call 79; refine H.out.mono ?_; rintro e w' ⟨rfl, rfl⟩)
  go_ret3
  exact ⟨rfl, rfl⟩

set_option maxRecDepth 100000 in
set_option maxHeartbeats 1600000 in
theorem GetU_go (hs : Stop xs m k) :
    Calls Try.prog 72 #[.slice ao n cap, .int .i64 bits] w fun e w' => (goodU xs bits k → e = .returned (.tuple #[.int .u64 (val (xs.take (k + 1))), .int .i64 (k + 1), .int .i64 0])) ∧ (¬ goodU xs bits k → e = .returned (.tuple #[.int .u64 0, .int .i64 0, .int .i64 1])) ∧ Below w.heap.size w w' := by
  have hb : Bs xs := fun x hx => bounds_u8 (hr.wf x hx)
  have H := hid (whole_stop ao n cap xs bits w hr h1 h2 m hm k hs)
  have hkm := hs.most
  have hkn := hs.lt
  have hlen := hr.len
  have hkn' : k < n := by omega
  have hcap : k + 1 ≤ cap := by have := hr.le; omega
  have hk9 : k ≤ 9 := by omega
  obtain ⟨b, off, rfl, hc⟩ := hr.at (by omega)
  have Hc := hid hc
  have Hs := hid hs
  clear hc hlen hs hm
  go_enter Try.func72, Try.ntmps72
  go_wp2_with (go_at_call 79; refine H.out.mono ?_; rintro e w' ⟨rfl, rfl⟩)
  go_loop [9, 10, 11] (fun q o i => ∃ (j : Nat) (v : Int) (ov : Bool), i = .int .i64 ((j : Int) - 1) ∧ q = .int .u64 v ∧ o = .bool ov ∧ j ≤ k + 1 ∧ 0 ≤ v ∧ v ≤ 18446744073709551615 ∧
      Hid ((ov = false ∧ v = val ((xs.take (k + 1)).drop j)) ∨ (ov = true ∧ 18446744073709551616 ≤ val ((xs.take (k + 1)).drop j)))) (fun _ _ i => (intOf i + 1).toNat)
  case atStart =>
    refine ⟨k + 1, 0, false, by go_num, rfl, rfl, Nat.le_refl _, by omega, by omega, .inl ⟨rfl, ?_⟩⟩
    rw [List.drop_eq_nil_of_le (by simp; omega)]; rfl
  case round =>
    obtain ⟨j, v, ov, rfl, rfl, rfl, hj, hv0, hv1, HV⟩ := hrel
    cases j with
    | zero =>
      have hpos := hid (show (0 : Int) < 2 ^ bits.toNat from Int.pow_pos (by decide))
      have hp := hid (show (2 : Int) ^ bits.toNat ≤ 18446744073709551616 from by
        have := two_pow_le (show bits.toNat ≤ 64 by omega)
        rw [show (2 : Int) ^ 64 = 18446744073709551616 from by decide] at this
        exact this)
      cases ov with
      | true =>
        have hng : ¬ goodU xs bits k := by
          rintro ⟨_, g2⟩
          rcases HV.out with ⟨h, _⟩ | ⟨_, h⟩
          · cases h
          · have := hp.out
            simp only [List.drop_zero] at h
            omega
        go_wp2_with fail
        go_quiet (fail)
        go_wp2_with fail
        go_ret3
        exact ⟨fun h => absurd h hng, fun _ => rfl, ⟨rfl, rfl, rfl, Nat.le_refl _, fun _ _ => rfl⟩⟩
      | false =>
        have hv : v = val (xs.take (k + 1)) := by
          rcases HV.out with ⟨_, h⟩ | ⟨h, _⟩
          · simpa using h
          · cases h
        rcases (show (bits < 64 ∧ 2 ^ bits.toNat ≤ v) ∨ ¬ (bits < 64 ∧ 2 ^ bits.toNat ≤ v) from by omega) with ⟨hbt, hvb⟩ | hn
        · have hng : ¬ goodU xs bits k := by
            rintro ⟨_, g2⟩
            rw [← hv] at g2
            omega
          obtain ⟨p, hpp⟩ : ∃ p : Int, p = 2 ^ bits.toNat := ⟨_, rfl⟩
          have hp1 : IntKind.u64.wrap (2 ^ bits.toNat) = p := by rw [← hpp]; exact IntWalk.u64_in p (by have := hpos.out; rw [← hpp] at hvb this; omega)
          have hp2 : (2 : Int) ^ bits.toNat % 18446744073709551616 = p := by have := hpos.out; rw [← hpp] at hvb this ⊢; omega
          rw [← hpp] at hvb
          clear hv hpp
          go_wp2_with fail
          go_quiet (fail)
          go_wp2_with fail
          go_ret3
          exact ⟨fun h => absurd h hng, fun _ => rfl, ⟨rfl, rfl, rfl, Nat.le_refl _, fun _ _ => rfl⟩⟩
        · have hiff : strOfNums (encU 9 v) = strOfNums (xs.take (k + 1)) ↔ goodU xs bits k := by
            rw [hv]
            refine (str_iffU Hs.out hb (by omega) (by rw [← hv]; exact hv1)).trans ⟨fun h => ⟨h, ?_⟩, fun h => h.1⟩
            rw [← hv]
            by_cases hb64 : bits < 64
            · omega
            · rw [show bits = 64 from by omega, show (2 : Int) ^ (64 : Int).toNat = 18446744073709551616 from by decide]
              omega
          obtain ⟨s0, hs0⟩ : ∃ s0, s0 = strOfNums (xs.take (k + 1)) := ⟨_, rfl⟩
          obtain ⟨s1, hs1⟩ : ∃ s1, s1 = strOfNums (encU 9 v) := ⟨_, rfl⟩
          rw [← hs0, ← hs1] at hiff
          have Hs0 := hid hs0
          have Hs1 := hid hs1
          have Hr := hid hr
          have Hv := hid hv
          have Hiff := hid hiff
          clear hs0 hs1 hr hv hiff
          by_cases hb64 : bits < 64
          · obtain ⟨p, hpp⟩ : ∃ p : Int, p = 2 ^ bits.toNat := ⟨_, rfl⟩
            have hvb : v < p := by omega
            have hp1 : IntKind.u64.wrap (2 ^ bits.toNat) = p := by rw [← hpp]; exact IntWalk.u64_in p (by have := hpos.out; have := two_pow_le (show bits.toNat ≤ 63 by omega); rw [show (2 : Int) ^ 63 = 9223372036854775808 from by decide, ← hpp] at this; omega)
            have hp2 : (2 : Int) ^ bits.toNat % 18446744073709551616 = p := by have := hpos.out; have := two_pow_le (show bits.toNat ≤ 63 by omega); rw [show (2 : Int) ^ 63 = 9223372036854775808 from by decide] at this; omega
            have hwb : IntKind.u64.wrap bits = bits := IntWalk.u64_in bits (by omega)
            have hd1 : decide (bits < 64) = true := decide_eq_true hb64
            have hd2 : decide (p ≤ v) = false := decide_eq_false (by omega)
            clear hpp hn
            go_wp2_with fail
            refine wp_region_below (by kernel_rfl) [Is ?vC0, Is ?vC1, Is ?vC2, Is ?vC3, Is ?vC4, Is ?vC5, Is ?vC6, Is ?vC7, Is ?vC8, Is ?vC9, Is ?vC10, Is ?vC11, Is ?vC12, Is ?vC13, IsRd .u8 (encU 9 v), Is (.string s1), Is ?vC16, Is ?vC17, Is ?vC18, Is (.string s0), Is ?vC20, Is ?vC21] [0, 1, 2, 3, 4, 5, 6, 7, 8, 9, 10, 11, 12, 13, 14, 15, 16, 17, 18, 19, 20, 21] rfl (by kernel_rfl) rfl ?hopC ?hstC ?hendC
            case hopC =>
              refine ⟨⟨⟨_, _, _, _, _, _⟩, _, Is ?vC0, none, [], [(10, .bool false)], rfl, rfl, rfl, rfl, rfl, ⟨⟨by kernel_rfl, rfl⟩, trivial⟩, ?_⟩, ?_⟩
              · intro a w1 hC e10
                refine Or.inl ⟨_, ?_, rfl⟩
                go_simp
                first | (go_bits; rfl) | rfl | (rw [if_pos (by omega)])
              refine ⟨⟨⟨_, _, _, _, _, _⟩, _, Is ?vC1, none, [(some 47, Is ?vC0)], [], rfl, rfl, rfl, rfl, rfl, trivial, ?_⟩, ?_⟩
              · intro a w1 hC  (h0 : a.tmps.getD 47 undef = _)
                refine Or.inl ⟨_, ?_, rfl⟩
                go_simp
                first | (go_bits; rfl) | rfl | (rw [if_pos (by omega)])
              refine ⟨⟨⟨_, _, _, _, _, _⟩, _, Is ?vC2, (some (some 48, false)), [(some 48, Is ?vC1)], [(1, .int .i64 bits)], rfl, rfl, rfl, rfl, rfl, ⟨⟨by kernel_rfl, rfl⟩, trivial⟩, ?_⟩, ?_⟩
              · intro a w1 hC e1 (h1 : a.tmps.getD 48 undef = _)
                refine Or.inl ⟨h1, ?_⟩
                refine Or.inl ⟨_, ?_, rfl⟩
                go_simp
                first | (go_bits; rfl) | rfl | (rw [if_pos (by omega)])
              refine ⟨⟨⟨_, _, _, _, _, _⟩, _, Is ?vC3, (some (some 48, false)), [(some 49, Is ?vC2), (some 48, Is ?vC1)], [], rfl, rfl, rfl, rfl, rfl, trivial, ?_⟩, ?_⟩
              · intro a w1 hC  (h2 : a.tmps.getD 49 undef = _) (h1 : a.tmps.getD 48 undef = _)
                refine Or.inl ⟨h1, ?_⟩
                refine Or.inl ⟨_, ?_, rfl⟩
                go_simp
                first | (go_bits; rfl) | rfl | (rw [if_pos (by omega)])
              refine ⟨⟨⟨_, _, _, _, _, _⟩, _, Is ?vC4, (some (some 48, false)), [(some 50, Is ?vC3), (some 48, Is ?vC1), (some 48, Is ?vC1)], [], rfl, rfl, rfl, rfl, rfl, trivial, ?_⟩, ?_⟩
              · intro a w1 hC  (h3 : a.tmps.getD 50 undef = _) (h1 : a.tmps.getD 48 undef = _) _
                refine Or.inl ⟨h1, ?_⟩
                refine Or.inl ⟨_, ?_, rfl⟩
                go_simp
                first | (go_bits; rfl) | rfl | (rw [if_pos (by omega)])
              refine ⟨⟨⟨_, _, _, _, _, _⟩, _, Is ?vC5, (some (some 51, true)), [(some 51, Is ?vC4)], [(9, .int .u64 v)], rfl, rfl, rfl, rfl, rfl, ⟨⟨by kernel_rfl, rfl⟩, trivial⟩, ?_⟩, ?_⟩
              · intro a w1 hC e9 (h4 : a.tmps.getD 51 undef = _)
                refine Or.inl ⟨h4, ?_⟩
                refine Or.inl ⟨_, ?_, rfl⟩
                go_simp
                first | (go_bits; rfl) | rfl | (rw [if_pos (by omega)])
              refine ⟨⟨⟨_, _, _, _, _, _⟩, _, Is ?vC6, (some (some 51, true)), [(some 51, Is ?vC4)], [(1, .int .i64 bits)], rfl, rfl, rfl, rfl, rfl, ⟨⟨by kernel_rfl, rfl⟩, trivial⟩, ?_⟩, ?_⟩
              · intro a w1 hC e1 (h4 : a.tmps.getD 51 undef = _)
                refine Or.inl ⟨h4, ?_⟩
                refine Or.inl ⟨_, ?_, rfl⟩
                go_simp
                first | (go_bits; rfl) | rfl | (rw [if_pos (by omega)])
              refine ⟨⟨⟨_, _, _, _, _, _⟩, _, Is ?vC7, (some (some 51, true)), [(some 53, Is ?vC6), (some 51, Is ?vC4)], [], rfl, rfl, rfl, rfl, rfl, trivial, ?_⟩, ?_⟩
              · intro a w1 hC  (h6 : a.tmps.getD 53 undef = _) (h4 : a.tmps.getD 51 undef = _)
                refine Or.inl ⟨h4, ?_⟩
                refine Or.inl ⟨_, ?_, rfl⟩
                go_simp
                first | (go_bits; rfl) | rfl | (rw [if_pos (by omega)])
              refine ⟨⟨⟨_, _, _, _, _, _⟩, _, Is ?vC8, (some (some 51, true)), [(some 54, Is ?vC7), (some 51, Is ?vC4)], [], rfl, rfl, rfl, rfl, rfl, trivial, ?_⟩, ?_⟩
              · intro a w1 hC  (h7 : a.tmps.getD 54 undef = _) (h4 : a.tmps.getD 51 undef = _)
                refine Or.inl ⟨h4, ?_⟩
                refine Or.inl ⟨_, ?_, rfl⟩
                go_simp
                first | (go_bits; rfl) | rfl | (rw [if_pos (by omega)])
              refine ⟨⟨⟨_, _, _, _, _, _⟩, _, Is ?vC9, (some (some 51, true)), [(some 52, Is ?vC5), (some 55, Is ?vC8), (some 51, Is ?vC4)], [], rfl, rfl, rfl, rfl, rfl, trivial, ?_⟩, ?_⟩
              · intro a w1 hC  (h5 : a.tmps.getD 52 undef = _) (h8 : a.tmps.getD 55 undef = _) (h4 : a.tmps.getD 51 undef = _)
                refine Or.inl ⟨h4, ?_⟩
                refine Or.inl ⟨_, ?_, rfl⟩
                go_simp
                first | (go_bits; rfl) | rfl | (rw [if_pos (by omega)])
              refine ⟨⟨⟨_, _, _, _, _, _⟩, _, Is ?vC10, (some (some 48, false)), [(some 51, Is ?vC4), (some 56, Is ?vC9), (some 48, Is ?vC1)], [], rfl, rfl, rfl, rfl, rfl, trivial, ?_⟩, ?_⟩
              · intro a w1 hC  (h4 : a.tmps.getD 51 undef = _) (h9 : a.tmps.getD 56 undef = _) (h1 : a.tmps.getD 48 undef = _)
                refine Or.inl ⟨h1, ?_⟩
                refine Or.inl ⟨_, ?_, rfl⟩
                go_simp
                first | (go_bits; rfl) | rfl | (rw [if_pos (by omega)])
              refine ⟨⟨⟨_, _, _, _, _, _⟩, _, Is ?vC11, none, [(some 48, Is ?vC1), (some 57, Is ?vC10)], [], rfl, rfl, rfl, rfl, rfl, trivial, ?_⟩, ?_⟩
              · intro a w1 hC  (h1 : a.tmps.getD 48 undef = _) (h10 : a.tmps.getD 57 undef = _)
                refine Or.inl ⟨_, ?_, rfl⟩
                go_simp
                first | (go_bits; rfl) | rfl | (rw [if_pos (by omega)])
              refine ⟨⟨⟨_, _, _, _, _, _⟩, _, Is ?vC12, none, [(some 58, Is ?vC11), (some 51, Is ?vC4)], [], rfl, rfl, rfl, rfl, rfl, trivial, ?_⟩, ?_⟩
              · intro a w1 hC  (h11 : a.tmps.getD 58 undef = _) (h4 : a.tmps.getD 51 undef = _)
                refine Or.inl ⟨_, ?_, rfl⟩
                go_simp
                first | (go_bits; rfl) | rfl | (rw [if_pos (by omega)])
              refine ⟨⟨⟨_, _, _, _, _, _⟩, _, Is ?vC13, (some (some 59, false)), [(some 59, Is ?vC12)], [(9, .int .u64 v)], rfl, rfl, rfl, rfl, rfl, ⟨⟨by kernel_rfl, rfl⟩, trivial⟩, ?_⟩, ?_⟩
              · intro a w1 hC e9 (h12 : a.tmps.getD 59 undef = _)
                refine Or.inl ⟨h12, ?_⟩
                refine Or.inl ⟨_, ?_, rfl⟩
                go_simp
                first | (go_bits; rfl) | rfl | (rw [if_pos (by omega)])
              refine ⟨⟨⟨_, _, _, _, _, _⟩, _, IsRd .u8 (encU 9 v), (some (some 59, false)), [(some 60, Is ?vC13), (some 59, Is ?vC12), (some 59, Is ?vC12)], [], rfl, rfl, rfl, rfl, rfl, trivial, ?_⟩, ?_⟩
              · intro a w1 hC  (h13 : a.tmps.getD 60 undef = _) (h12 : a.tmps.getD 59 undef = _) _
                refine Or.inl ⟨h12, ?_⟩
                refine Or.inr (Or.inl ⟨42, #[.int .u64 v], ?_, ?_⟩)
                · go_simp
                · refine (refU_any v w1 hv0 hv1).mono ?_
                  rintro e w2 ⟨vv, rfl, hown, hbel⟩
                  obtain ⟨ao1, cap1, rfl, hrd⟩ := hown.rd
                  exact ⟨_, rfl, ⟨ao1, cap1, rfl, hrd⟩, hbel⟩
              refine ⟨⟨⟨_, _, _, _, _, _⟩, _, Is (.string s1), (some (some 59, false)), [(some 61, IsRd .u8 (encU 9 v)), (some 59, Is ?vC12)], [], rfl, rfl, rfl, rfl, rfl, trivial, ?_⟩, ?_⟩
              · intro a w1 hC  h14 (h12 : a.tmps.getD 59 undef = _)
                refine Or.inl ⟨h12, ?_⟩
                obtain ⟨ao1, cap1, e14, hrd⟩ := h14
                refine Or.inl ⟨.string s1, ?_, rfl⟩
                have e14 : a.tmps.getD 61 undef = _ := e14
                have c := conv_str (P := Try.prog) hrd 41 9 5 Try.underlying41 Try.underlying5 Try.underlying9
                rw [← Hs1.out] at c
                go_simp
              refine ⟨⟨⟨_, _, _, _, _, _⟩, _, Is ?vC16, (some (some 59, false)), [(some 59, Is ?vC12)], [(0, .slice (some ⟨b, off, none⟩) n cap)], rfl, rfl, rfl, rfl, rfl, ⟨⟨by kernel_rfl, rfl⟩, trivial⟩, ?_⟩, ?_⟩
              · intro a w1 hC e0 (h12 : a.tmps.getD 59 undef = _)
                refine Or.inl ⟨h12, ?_⟩
                refine Or.inl ⟨_, ?_, rfl⟩
                go_simp
                first | (go_bits; rfl) | rfl | (rw [if_pos (by omega)])
              refine ⟨⟨⟨_, _, _, _, _, _⟩, _, Is ?vC17, (some (some 59, false)), [(some 59, Is ?vC12)], [(7, .int .i64 (k + 1))], rfl, rfl, rfl, rfl, rfl, ⟨⟨by kernel_rfl, rfl⟩, trivial⟩, ?_⟩, ?_⟩
              · intro a w1 hC e7 (h12 : a.tmps.getD 59 undef = _)
                refine Or.inl ⟨h12, ?_⟩
                refine Or.inl ⟨_, ?_, rfl⟩
                go_simp
                first | (go_bits; rfl) | rfl | (rw [if_pos (by omega)])
              refine ⟨⟨⟨_, _, _, _, _, _⟩, _, Is ?vC18, (some (some 59, false)), [(some 63, Is ?vC16), (some 64, Is ?vC17), (some 59, Is ?vC12)], [], rfl, rfl, rfl, rfl, rfl, trivial, ?_⟩, ?_⟩
              · intro a w1 hC  (h16 : a.tmps.getD 63 undef = _) (h17 : a.tmps.getD 64 undef = _) (h12 : a.tmps.getD 59 undef = _)
                refine Or.inl ⟨h12, ?_⟩
                refine Or.inl ⟨_, ?_, rfl⟩
                go_simp
                first | (go_bits; rfl) | rfl | (rw [if_pos (by omega)])
              refine ⟨⟨⟨_, _, _, _, _, _⟩, _, Is (.string s0), (some (some 59, false)), [(some 65, Is ?vC18), (some 59, Is ?vC12)], [], rfl, rfl, rfl, rfl, rfl, trivial, ?_⟩, ?_⟩
              · intro a w1 hC  (h18 : a.tmps.getD 65 undef = _) (h12 : a.tmps.getD 59 undef = _)
                refine Or.inl ⟨h12, ?_⟩
                refine Or.inl ⟨.string s0, ?_, rfl⟩
                have c := conv_str (P := Try.prog) ((Hr.out.below hC).upto (i := k + 1) (by omega)) 41 9 5 Try.underlying41 Try.underlying5 Try.underlying9
                rw [← Hs0.out] at c
                go_simp
              refine ⟨⟨⟨_, _, _, _, _, _⟩, _, Is ?vC20, (some (some 59, false)), [(some 62, Is (.string s1)), (some 66, Is (.string s0)), (some 59, Is ?vC12)], [], rfl, rfl, rfl, rfl, rfl, trivial, ?_⟩, ?_⟩
              · intro a w1 hC  (h15 : a.tmps.getD 62 undef = _) (h19 : a.tmps.getD 66 undef = _) (h12 : a.tmps.getD 59 undef = _)
                refine Or.inl ⟨h12, ?_⟩
                refine Or.inl ⟨_, ?_, rfl⟩
                go_simp
                first | (go_bits; rfl) | rfl | (rw [if_pos (by omega)])
              refine ⟨⟨⟨_, _, _, _, _, _⟩, _, Is ?vC21, none, [(some 59, Is ?vC12), (some 67, Is ?vC20)], [], rfl, rfl, rfl, rfl, rfl, trivial, ?_⟩, ?_⟩
              · intro a w1 hC  (h12 : a.tmps.getD 59 undef = _) (h20 : a.tmps.getD 67 undef = _)
                refine Or.inl ⟨_, ?_, rfl⟩
                go_simp
                first | (go_bits; rfl) | rfl | (rw [if_pos (by omega)])
              exact trivial
            case hstC => exact ⟨Stays.is _, Stays.is _, Stays.is _, Stays.is _, Stays.is _, Stays.is _, Stays.is _, Stays.is _, Stays.is _, Stays.is _, Stays.is _, Stays.is _, Stays.is _, Stays.is _, Stays.rd _ _, Stays.is _, Stays.is _, Stays.is _, Stays.is _, Stays.is _, Stays.is _, Stays.is _, trivial⟩
            case hendC =>
              intro w1 hC
              rintro _ rfl
              rintro _ rfl
              rintro _ rfl
              rintro _ rfl
              rintro _ rfl
              rintro _ rfl
              rintro _ rfl
              rintro _ rfl
              rintro _ rfl
              rintro _ rfl
              rintro _ rfl
              rintro _ rfl
              rintro _ rfl
              rintro _ rfl
              intro x14 h14
              rintro _ rfl
              rintro _ rfl
              rintro _ rfl
              rintro _ rfl
              rintro _ rfl
              rintro _ rfl
              rintro _ rfl
              simp only [Ends, Act.put, List.setIfInBounds_toArray, List.set_cons_succ, List.set_cons_zero]
              go_wp2_with fail
              · have hne : (!s1.toList == s0.toList) = true := by assumption
                have hng : ¬ goodU xs bits k := fun h => by rw [Hiff.out.2 h] at hne; simp at hne
                go_ret3
                exact ⟨fun h => absurd h hng, fun _ => rfl, hC⟩
              · have hne : (!s1.toList == s0.toList) = false := by assumption
                have hg : goodU xs bits k := Hiff.out.1 (str_eq (by simpa using hne))
                go_ret3
                exact ⟨fun _ => by rw [← Hv.out]; rfl, fun h => absurd hg h, hC⟩
          · have hd1 : decide (bits < 64) = false := decide_eq_false hb64
            clear hn
            go_wp2_with fail
            refine wp_region_below (by kernel_rfl) [Is ?vD0, Is ?vD1, Is ?vD2, Is ?vD3, Is ?vD4, Is ?vD5, Is ?vD6, Is ?vD7, Is ?vD8, Is ?vD9, Is ?vD10, Is ?vD11, Is ?vD12, Is ?vD13, IsRd .u8 (encU 9 v), Is (.string s1), Is ?vD16, Is ?vD17, Is ?vD18, Is (.string s0), Is ?vD20, Is ?vD21] [0, 1, 2, 3, 4, 5, 6, 7, 8, 9, 10, 11, 12, 13, 14, 15, 16, 17, 18, 19, 20, 21] rfl (by kernel_rfl) rfl ?hopD ?hstD ?hendD
            case hopD =>
              refine ⟨⟨⟨_, _, _, _, _, _⟩, _, Is ?vD0, none, [], [(10, .bool false)], rfl, rfl, rfl, rfl, rfl, ⟨⟨by kernel_rfl, rfl⟩, trivial⟩, ?_⟩, ?_⟩
              · intro a w1 hC e10
                refine Or.inl ⟨_, ?_, rfl⟩
                go_simp
                first | (go_bits; rfl) | rfl | (rw [if_pos (by omega)])
              refine ⟨⟨⟨_, _, _, _, _, _⟩, _, Is ?vD1, none, [(some 47, Is ?vD0)], [], rfl, rfl, rfl, rfl, rfl, trivial, ?_⟩, ?_⟩
              · intro a w1 hC  (h0 : a.tmps.getD 47 undef = _)
                refine Or.inl ⟨_, ?_, rfl⟩
                go_simp
                first | (go_bits; rfl) | rfl | (rw [if_pos (by omega)])
              refine ⟨⟨⟨_, _, _, _, _, _⟩, _, Is ?vD2, (some (some 48, false)), [(some 48, Is ?vD1)], [(1, .int .i64 bits)], rfl, rfl, rfl, rfl, rfl, ⟨⟨by kernel_rfl, rfl⟩, trivial⟩, ?_⟩, ?_⟩
              · intro a w1 hC e1 (h1 : a.tmps.getD 48 undef = _)
                refine Or.inl ⟨h1, ?_⟩
                refine Or.inl ⟨_, ?_, rfl⟩
                go_simp
                first | (go_bits; rfl) | rfl | (rw [if_pos (by omega)])
              refine ⟨⟨⟨_, _, _, _, _, _⟩, _, Is ?vD3, (some (some 48, false)), [(some 49, Is ?vD2), (some 48, Is ?vD1)], [], rfl, rfl, rfl, rfl, rfl, trivial, ?_⟩, ?_⟩
              · intro a w1 hC  (h2 : a.tmps.getD 49 undef = _) (h1 : a.tmps.getD 48 undef = _)
                refine Or.inl ⟨h1, ?_⟩
                refine Or.inl ⟨_, ?_, rfl⟩
                go_simp
                first | (go_bits; rfl) | rfl | (rw [if_pos (by omega)])
              refine ⟨⟨⟨_, _, _, _, _, _⟩, _, Is ?vD4, (some (some 48, false)), [(some 50, Is ?vD3), (some 48, Is ?vD1), (some 48, Is ?vD1)], [], rfl, rfl, rfl, rfl, rfl, trivial, ?_⟩, ?_⟩
              · intro a w1 hC  (h3 : a.tmps.getD 50 undef = _) (h1 : a.tmps.getD 48 undef = _) _
                refine Or.inl ⟨h1, ?_⟩
                refine Or.inl ⟨_, ?_, rfl⟩
                go_simp
                first | (go_bits; rfl) | rfl | (rw [if_pos (by omega)])
              refine ⟨⟨⟨_, _, _, _, _, _⟩, _, Is ?vD5, (some (some 51, true)), [(some 51, Is ?vD4)], [(9, .int .u64 v)], rfl, rfl, rfl, rfl, rfl, ⟨⟨by kernel_rfl, rfl⟩, trivial⟩, ?_⟩, ?_⟩
              · intro a w1 hC e9 (h4 : a.tmps.getD 51 undef = _)
                refine Or.inr ⟨fun hh => ?_, ?_⟩
                · have := h4.symm.trans hh; cases this
                · rfl
              refine ⟨⟨⟨_, _, _, _, _, _⟩, _, Is ?vD6, (some (some 51, true)), [(some 51, Is ?vD4)], [(1, .int .i64 bits)], rfl, rfl, rfl, rfl, rfl, ⟨⟨by kernel_rfl, rfl⟩, trivial⟩, ?_⟩, ?_⟩
              · intro a w1 hC e1 (h4 : a.tmps.getD 51 undef = _)
                refine Or.inr ⟨fun hh => ?_, ?_⟩
                · have := h4.symm.trans hh; cases this
                · rfl
              refine ⟨⟨⟨_, _, _, _, _, _⟩, _, Is ?vD7, (some (some 51, true)), [(some 53, Is ?vD6), (some 51, Is ?vD4)], [], rfl, rfl, rfl, rfl, rfl, trivial, ?_⟩, ?_⟩
              · intro a w1 hC  (h6 : a.tmps.getD 53 undef = _) (h4 : a.tmps.getD 51 undef = _)
                refine Or.inr ⟨fun hh => ?_, ?_⟩
                · have := h4.symm.trans hh; cases this
                · rfl
              refine ⟨⟨⟨_, _, _, _, _, _⟩, _, Is ?vD8, (some (some 51, true)), [(some 54, Is ?vD7), (some 51, Is ?vD4)], [], rfl, rfl, rfl, rfl, rfl, trivial, ?_⟩, ?_⟩
              · intro a w1 hC  (h7 : a.tmps.getD 54 undef = _) (h4 : a.tmps.getD 51 undef = _)
                refine Or.inr ⟨fun hh => ?_, ?_⟩
                · have := h4.symm.trans hh; cases this
                · rfl
              refine ⟨⟨⟨_, _, _, _, _, _⟩, _, Is ?vD9, (some (some 51, true)), [(some 52, Is ?vD5), (some 55, Is ?vD8), (some 51, Is ?vD4)], [], rfl, rfl, rfl, rfl, rfl, trivial, ?_⟩, ?_⟩
              · intro a w1 hC  (h5 : a.tmps.getD 52 undef = _) (h8 : a.tmps.getD 55 undef = _) (h4 : a.tmps.getD 51 undef = _)
                refine Or.inr ⟨fun hh => ?_, ?_⟩
                · have := h4.symm.trans hh; cases this
                · rfl
              refine ⟨⟨⟨_, _, _, _, _, _⟩, _, Is ?vD10, (some (some 48, false)), [(some 51, Is ?vD4), (some 56, Is ?vD9), (some 48, Is ?vD1)], [], rfl, rfl, rfl, rfl, rfl, trivial, ?_⟩, ?_⟩
              · intro a w1 hC  (h4 : a.tmps.getD 51 undef = _) (h9 : a.tmps.getD 56 undef = _) (h1 : a.tmps.getD 48 undef = _)
                refine Or.inl ⟨h1, ?_⟩
                refine Or.inl ⟨_, ?_, rfl⟩
                go_simp
                first | (go_bits; rfl) | rfl | (rw [if_pos (by omega)])
              refine ⟨⟨⟨_, _, _, _, _, _⟩, _, Is ?vD11, none, [(some 48, Is ?vD1), (some 57, Is ?vD10)], [], rfl, rfl, rfl, rfl, rfl, trivial, ?_⟩, ?_⟩
              · intro a w1 hC  (h1 : a.tmps.getD 48 undef = _) (h10 : a.tmps.getD 57 undef = _)
                refine Or.inl ⟨_, ?_, rfl⟩
                go_simp
                first | (go_bits; rfl) | rfl | (rw [if_pos (by omega)])
              refine ⟨⟨⟨_, _, _, _, _, _⟩, _, Is ?vD12, none, [(some 58, Is ?vD11), (some 51, Is ?vD4)], [], rfl, rfl, rfl, rfl, rfl, trivial, ?_⟩, ?_⟩
              · intro a w1 hC  (h11 : a.tmps.getD 58 undef = _) (h4 : a.tmps.getD 51 undef = _)
                refine Or.inl ⟨_, ?_, rfl⟩
                go_simp
                first | (go_bits; rfl) | rfl | (rw [if_pos (by omega)])
              refine ⟨⟨⟨_, _, _, _, _, _⟩, _, Is ?vD13, (some (some 59, false)), [(some 59, Is ?vD12)], [(9, .int .u64 v)], rfl, rfl, rfl, rfl, rfl, ⟨⟨by kernel_rfl, rfl⟩, trivial⟩, ?_⟩, ?_⟩
              · intro a w1 hC e9 (h12 : a.tmps.getD 59 undef = _)
                refine Or.inl ⟨h12, ?_⟩
                refine Or.inl ⟨_, ?_, rfl⟩
                go_simp
                first | (go_bits; rfl) | rfl | (rw [if_pos (by omega)])
              refine ⟨⟨⟨_, _, _, _, _, _⟩, _, IsRd .u8 (encU 9 v), (some (some 59, false)), [(some 60, Is ?vD13), (some 59, Is ?vD12), (some 59, Is ?vD12)], [], rfl, rfl, rfl, rfl, rfl, trivial, ?_⟩, ?_⟩
              · intro a w1 hC  (h13 : a.tmps.getD 60 undef = _) (h12 : a.tmps.getD 59 undef = _) _
                refine Or.inl ⟨h12, ?_⟩
                refine Or.inr (Or.inl ⟨42, #[.int .u64 v], ?_, ?_⟩)
                · go_simp
                · refine (refU_any v w1 hv0 hv1).mono ?_
                  rintro e w2 ⟨vv, rfl, hown, hbel⟩
                  obtain ⟨ao1, cap1, rfl, hrd⟩ := hown.rd
                  exact ⟨_, rfl, ⟨ao1, cap1, rfl, hrd⟩, hbel⟩
              refine ⟨⟨⟨_, _, _, _, _, _⟩, _, Is (.string s1), (some (some 59, false)), [(some 61, IsRd .u8 (encU 9 v)), (some 59, Is ?vD12)], [], rfl, rfl, rfl, rfl, rfl, trivial, ?_⟩, ?_⟩
              · intro a w1 hC  h14 (h12 : a.tmps.getD 59 undef = _)
                refine Or.inl ⟨h12, ?_⟩
                obtain ⟨ao1, cap1, e14, hrd⟩ := h14
                refine Or.inl ⟨.string s1, ?_, rfl⟩
                have e14 : a.tmps.getD 61 undef = _ := e14
                have c := conv_str (P := Try.prog) hrd 41 9 5 Try.underlying41 Try.underlying5 Try.underlying9
                rw [← Hs1.out] at c
                go_simp
              refine ⟨⟨⟨_, _, _, _, _, _⟩, _, Is ?vD16, (some (some 59, false)), [(some 59, Is ?vD12)], [(0, .slice (some ⟨b, off, none⟩) n cap)], rfl, rfl, rfl, rfl, rfl, ⟨⟨by kernel_rfl, rfl⟩, trivial⟩, ?_⟩, ?_⟩
              · intro a w1 hC e0 (h12 : a.tmps.getD 59 undef = _)
                refine Or.inl ⟨h12, ?_⟩
                refine Or.inl ⟨_, ?_, rfl⟩
                go_simp
                first | (go_bits; rfl) | rfl | (rw [if_pos (by omega)])
              refine ⟨⟨⟨_, _, _, _, _, _⟩, _, Is ?vD17, (some (some 59, false)), [(some 59, Is ?vD12)], [(7, .int .i64 (k + 1))], rfl, rfl, rfl, rfl, rfl, ⟨⟨by kernel_rfl, rfl⟩, trivial⟩, ?_⟩, ?_⟩
              · intro a w1 hC e7 (h12 : a.tmps.getD 59 undef = _)
                refine Or.inl ⟨h12, ?_⟩
                refine Or.inl ⟨_, ?_, rfl⟩
                go_simp
                first | (go_bits; rfl) | rfl | (rw [if_pos (by omega)])
              refine ⟨⟨⟨_, _, _, _, _, _⟩, _, Is ?vD18, (some (some 59, false)), [(some 63, Is ?vD16), (some 64, Is ?vD17), (some 59, Is ?vD12)], [], rfl, rfl, rfl, rfl, rfl, trivial, ?_⟩, ?_⟩
              · intro a w1 hC  (h16 : a.tmps.getD 63 undef = _) (h17 : a.tmps.getD 64 undef = _) (h12 : a.tmps.getD 59 undef = _)
                refine Or.inl ⟨h12, ?_⟩
                refine Or.inl ⟨_, ?_, rfl⟩
                go_simp
                first | (go_bits; rfl) | rfl | (rw [if_pos (by omega)])
              refine ⟨⟨⟨_, _, _, _, _, _⟩, _, Is (.string s0), (some (some 59, false)), [(some 65, Is ?vD18), (some 59, Is ?vD12)], [], rfl, rfl, rfl, rfl, rfl, trivial, ?_⟩, ?_⟩
              · intro a w1 hC  (h18 : a.tmps.getD 65 undef = _) (h12 : a.tmps.getD 59 undef = _)
                refine Or.inl ⟨h12, ?_⟩
                refine Or.inl ⟨.string s0, ?_, rfl⟩
                have c := conv_str (P := Try.prog) ((Hr.out.below hC).upto (i := k + 1) (by omega)) 41 9 5 Try.underlying41 Try.underlying5 Try.underlying9
                rw [← Hs0.out] at c
                go_simp
              refine ⟨⟨⟨_, _, _, _, _, _⟩, _, Is ?vD20, (some (some 59, false)), [(some 62, Is (.string s1)), (some 66, Is (.string s0)), (some 59, Is ?vD12)], [], rfl, rfl, rfl, rfl, rfl, trivial, ?_⟩, ?_⟩
              · intro a w1 hC  (h15 : a.tmps.getD 62 undef = _) (h19 : a.tmps.getD 66 undef = _) (h12 : a.tmps.getD 59 undef = _)
                refine Or.inl ⟨h12, ?_⟩
                refine Or.inl ⟨_, ?_, rfl⟩
                go_simp
                first | (go_bits; rfl) | rfl | (rw [if_pos (by omega)])
              refine ⟨⟨⟨_, _, _, _, _, _⟩, _, Is ?vD21, none, [(some 59, Is ?vD12), (some 67, Is ?vD20)], [], rfl, rfl, rfl, rfl, rfl, trivial, ?_⟩, ?_⟩
              · intro a w1 hC  (h12 : a.tmps.getD 59 undef = _) (h20 : a.tmps.getD 67 undef = _)
                refine Or.inl ⟨_, ?_, rfl⟩
                go_simp
                first | (go_bits; rfl) | rfl | (rw [if_pos (by omega)])
              exact trivial
            case hstD => exact ⟨Stays.is _, Stays.is _, Stays.is _, Stays.is _, Stays.is _, Stays.is _, Stays.is _, Stays.is _, Stays.is _, Stays.is _, Stays.is _, Stays.is _, Stays.is _, Stays.is _, Stays.rd _ _, Stays.is _, Stays.is _, Stays.is _, Stays.is _, Stays.is _, Stays.is _, Stays.is _, trivial⟩
            case hendD =>
              intro w1 hC
              rintro _ rfl
              rintro _ rfl
              rintro _ rfl
              rintro _ rfl
              rintro _ rfl
              rintro _ rfl
              rintro _ rfl
              rintro _ rfl
              rintro _ rfl
              rintro _ rfl
              rintro _ rfl
              rintro _ rfl
              rintro _ rfl
              rintro _ rfl
              intro x14 h14
              rintro _ rfl
              rintro _ rfl
              rintro _ rfl
              rintro _ rfl
              rintro _ rfl
              rintro _ rfl
              rintro _ rfl
              simp only [Ends, Act.put, List.setIfInBounds_toArray, List.set_cons_succ, List.set_cons_zero]
              go_wp2_with fail
              · have hne : (!s1.toList == s0.toList) = true := by assumption
                have hng : ¬ goodU xs bits k := fun h => by rw [Hiff.out.2 h] at hne; simp at hne
                go_ret3
                exact ⟨fun h => absurd h hng, fun _ => rfl, hC⟩
              · have hne : (!s1.toList == s0.toList) = false := by assumption
                have hg : goodU xs bits k := Hiff.out.1 (str_eq (by simpa using hne))
                go_ret3
                exact ⟨fun _ => by rw [← Hv.out]; rfl, fun h => absurd hg h, hC⟩
    | succ j =>
      have hck := Hc.out j (by omega)
      obtain ⟨x, hxk⟩ : ∃ x, x = xs.getD j 0 := ⟨_, rfl⟩
      have hbk := hb.getD j
      rw [← hxk] at hck hbk
      have Hxk := hid hxk
      clear hxk
      have hV : val ((xs.take (k + 1)).drop j) = x % 128 + 128 * val ((xs.take (k + 1)).drop (j + 1)) := by
        have hjl : j < (xs.take (k + 1)).length := by simp; omega
        rw [List.drop_eq_getElem_cons hjl, val]
        congr 1
        rw [Hxk.out]
        simp [List.getD, show j < xs.length by omega]
      have hVn := val_nonneg ((xs.take (k + 1)).drop (j + 1))
      cases ov with
      | true =>
        have hV2 : 18446744073709551616 ≤ val ((xs.take (k + 1)).drop j) := by
          rcases HV.out with ⟨h, _⟩ | ⟨_, h⟩
          · cases h
          · omega
        have HV2 := hid hV2
        clear hV hVn hV2
        go_wp2
        go_round
        case rel => exact ⟨j, _, true, by go_num, rfl, rfl, by omega, wrap_u64_nonneg _, wrap_u64_le _, .inr ⟨rfl, HV2.out⟩⟩
        case measure => simp [intOf]
      | false =>
        have hv : v = val ((xs.take (k + 1)).drop (j + 1)) := by
          rcases HV.out with ⟨_, h⟩ | ⟨h, _⟩
          · exact h
          · cases h
        rw [← hv] at hV
        have HV2 := hid hV
        clear hV hVn hv
        by_cases hbig : 144115188075855872 ≤ v
        · go_wp2
          go_round
          case rel => exact ⟨j, _, true, by go_num, rfl, by go_num, by omega, wrap_u64_nonneg _, wrap_u64_le _, .inr ⟨rfl, by rw [HV2.out]; omega⟩⟩
          case measure => simp [intOf]
        · go_wp2
          go_round
          case rel => exact ⟨j, v * 128 + x % 128, false, by go_num, by go_num, by go_num, by omega, by omega, by omega, .inl ⟨rfl, by rw [HV2.out]; omega⟩⟩
          case measure => simp [intOf]
end
end Go.Proofs.Ytfambbpggodlkaa
