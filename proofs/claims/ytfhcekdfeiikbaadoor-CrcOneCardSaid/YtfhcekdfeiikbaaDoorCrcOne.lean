import Derived.Test.YtfhcekdfeiikbaaDoorCrcBurst
import Derived.Deep.Cut
namespace Go.Proofs.YtfhcekdfeiikbaaDoor
open Go.RowKit

set_option maxRecDepth 100000 in
set_option maxHeartbeats 1600000 in
theorem crcOne_walk (pa : Option Addr) (n0 c0 : Nat) (xs : List Int) (i k : Int) (w : World) (h0 : Rd .u8 w pa n0 c0 xs) (hi : -9223372036854775808 ≤ i ∧ i ≤ 9223372036854775807) (hk : -9223372036854775808 ≤ k ∧ k ≤ 9223372036854775807) (hL : Laid w) :
    Calls Tryd.prog 7 #[.slice pa n0 c0, .int .i64 i, .int .i64 k] w fun e w' => e = .returned (.bool true) ∧ Below w.heap.size w w' := by
  obtain ⟨hi0, hi1⟩ := hi
  obtain ⟨hk0, hk1⟩ := hk
  have s0 := h0.short 100
  have l0 := h0.le
  have m0 := h0.cap63
  obtain ⟨x, hx⟩ : ∃ x, x = xs.take (min n0 100) := ⟨_, rfl⟩
  rw [← hx] at s0
  obtain ⟨p, hp⟩ : ∃ p, p = min n0 100 := ⟨_, rfl⟩
  rw [← hp] at s0
  have kc := run_cut_h 22 elem_u8 size_u8 pa n0 c0 100 100 rfl
  go_enter Tryd.func7, Tryd.ntmps7
  go_wp2_with fail
  refine (begun_any w hL).mono ?_
  rintro e w1 ⟨rfl, b1⟩
  have W0 := hid s0
  have LW := hid hL
  have hp3 : p ≤ 100 := by omega
  have Hp := hid hp
  clear s0 hL hp hx h0
  go_upto_if 15 with (fail)
  go_cut [0] from 13 (fun v w' => v = .slice pa p c0 ∧ w' = w1)
  case first =>
    by_cases h : 100 < n0
    · have kc' := kc (by omega)
      have hp' := Hp.out
      obtain rfl : p = 100 := by omega
      clear kc hp'
      go_wp2_with fail
      go_meet
      case rel => exact ⟨rfl, rfl⟩
    · have hp' := Hp.out
      obtain rfl : p = n0 := by omega
      clear kc hp'
      go_wp2_with fail
      go_meet
      case rel => exact ⟨rfl, rfl⟩
  case rest =>
    obtain ⟨rfl, rfl⟩ := hcut
    clear kc
    have HX := hid W0.out.bytes
    have HL := hid W0.out.len
    rcases (show p = 0 ∨ (0 < p ∧ i < 0) ∨ (0 < p ∧ 0 ≤ i ∧ k < 0) ∨ (0 < p ∧ 0 ≤ i ∧ 0 ≤ k) from by omega) with rfl | ⟨h1, h2⟩ | ⟨h1, h2, h3⟩ | ⟨h1, h2, h3⟩
    · go_wp2_with fail
      go_ret
      exact ⟨rfl, b1⟩
    · go_wp2_with fail
      go_ret
      exact ⟨rfl, b1⟩
    · go_wp2_with fail
      go_ret
      exact ⟨rfl, b1⟩
    · have hpc := W0.out.le
      obtain ⟨a, rfl⟩ : ∃ a : Nat, i = a := ⟨i.toNat, by omega⟩
      obtain ⟨b, rfl⟩ : ∃ b : Nat, k = b := ⟨k.toNat, by omega⟩
      obtain ⟨u, hu⟩ : ∃ u, u = a % (8 * p) := ⟨_, rfl⟩
      obtain ⟨v, hv⟩ : ∃ v, v = b % (8 * p) := ⟨_, rfl⟩
      have q1 : (a : Int) % (8 * (p : Int)) = u := by rw [hu]; simp
      have q2 : (b : Int) % (8 * (p : Int)) = v := by rw [hv]; simp
      have hu8 : u < 8 * p := by rw [hu]; exact Nat.mod_lt _ (by omega)
      have hv8 : v < 8 * p := by rw [hv]; exact Nat.mod_lt _ (by omega)
      have hn0 : ((8 * (p : Int)) == 0) = false := by simp; omega
      have t1 : ((p : Int) == 0) = false := by simp; omega
      have t2 : decide ((a : Int) < 0) = false := by simp
      have t3 : decide ((b : Int) < 0) = false := by simp
      clear hu hv h2 h3
      go_wp2_with fail
      go_quiet (fail)
      rw [q1, q2]
      obtain ⟨w2, hw2⟩ : ∃ w2, w2 = wc.drewN nq := ⟨_, rfl⟩
      rw [← hw2]
      have B2 : Below w.heap.size w w2 := by rw [hw2]; exact b1.trans (below_drewN _ _ _)
      have S2 := hid (W0.out.below B2)
      clear hw2 b1 q1 q2 t1 t2 t3 hn0 hi0 hi1 hk0 hk1
      have hl0 := HL.out
      have hxb : (0 + p) * 1 ≤ 140737488355328 := by omega
      have hsz := B2.size
      have Hl0 := hid hl0
      clear hl0
      have tok1 := hid True.intro
      go_upto_region 10 with (first
        | (at_builtin; have _t := tok1; refine wpList_append_rd rfl (.const (.slice none 0 0)) _ 22 rfl 5 .u8 w2.heap.size 1 Tryd.underlying22 infoU8 _ [] rfl (Own.nil _ _ _ _) pa p c0 x rfl S2.out (by simp; omega) (by simp; omega) (Nat.le_refl _) ?_; intro v3 w3 o3 b3 _; clear tok1)
        | (at_builtin; refine wpList_append_rd rfl (.const (.slice none 0 0)) _ 22 rfl 5 .u8 w3.heap.size 1 Tryd.underlying22 infoU8 _ [] rfl (Own.nil _ _ _ _) pa p c0 x rfl (S2.out.below (b3.mono (Nat.le_refl _))) (by simp; omega) (by simp; omega) (Nat.le_refl _) ?_; intro v4 w4 o4 b4 _)
        | fail)
      rw [List.nil_append] at o3 o4
      obtain ⟨g, capg, rfl, hg0, hgc, hg63⟩ := o3.form (by rw [Hl0.out]; omega)
      obtain ⟨h, caph, rfl, hh0, hhc, hh63⟩ := o4.form (by rw [Hl0.out]; omega)
      rw [Hl0.out] at o3 o4 hgc hhc ⊢
      have Hcu := hid (bit_next Hl0.out HX.out hu8)
      have Hcv := hid (bit_next Hl0.out HX.out hv8)
      have vu := HX.out _ (W0.out.mem (i := u / 8) (by omega))
      have vv := HX.out _ (W0.out.mem (i := v / 8) (by omega))
      have hg3 := (o3.lt g rfl).2
      have o3' := o3.below b4 (Nat.le_refl _)
      obtain ⟨f1, f2, f3, f4, f5⟩ := o3'.cell (u / 8) (by rw [Hl0.out]; omega)
      obtain ⟨k1, k2, k3, k4, k5⟩ := o4.cell (v / 8) (by rw [Hl0.out]; omega)
      obtain ⟨xu, hxu⟩ : ∃ z : Nat, x.getD (u / 8) 0 = (z : Int) := ⟨(x.getD (u / 8) 0).toNat, by omega⟩
      obtain ⟨xv, hxv⟩ : ∃ z : Nat, x.getD (v / 8) 0 = (z : Int) := ⟨(x.getD (v / 8) 0).toNat, by omega⟩
      rw [hxu] at vu f1 Hcu
      rw [hxv] at vv k1 Hcv
      simp only [Int.toNat_natCast] at Hcu Hcv
      have gh : ¬ g = h := by omega
      have q3 : (u : Int) / 8 = ((u / 8 : Nat) : Int) := by simp
      have q4 : (v : Int) / 8 = ((v / 8 : Nat) : Int) := by simp
      have q5 : (u : Int) % 8 = ((u % 8 : Nat) : Int) := by simp
      have q6 : (v : Int) % 8 = ((v % 8 : Nat) : Int) := by simp
      have hi8 : u / 8 < p := by omega
      have hj8 : v / 8 < p := by omega
      have hm8 : u % 8 < 8 := by omega
      have hn8 : v % 8 < 8 := by omega
      have bu := bit_small u
      have bv := bit_small v
      have x1 := u8_xor_nat xu (2 ^ (u % 8)) (by omega) (by omega)
      have x2 := u8_xor_nat xv (2 ^ (v % 8)) (by omega) (by omega)
      have y1 : xu ^^^ 2 ^ (u % 8) < 256 := Nat.xor_lt_two_pow (n := 8) (by omega) (by omega)
      have y2 : xv ^^^ 2 ^ (v % 8) < 256 := Nat.xor_lt_two_pow (n := 8) (by omega) (by omega)
      have z1 : (2 : Int) ^ (u % 8) % 256 = ((2 ^ (u % 8) : Nat) : Int) := pow_small u
      have z2 : (2 : Int) ^ (v % 8) % 256 = ((2 ^ (v % 8) : Nat) : Int) := pow_small v
      have Eq := hid (show (u == v) = (crcOf 0 (bit p x u) == crcOf 0 (bit p x v)) from by
        by_cases e : u = v
        · rw [e, beq_self_eq_true, beq_self_eq_true]
        · have := crc_apart Hl0.out hp3 HX.out hu8 hv8 e
          rw [beq_false_of_ne e, beq_false_of_ne this])
      have Hne := hid (crc_turned Hl0.out HX.out hu8)
      obtain ⟨i8, hi8'⟩ : ∃ z, z = u / 8 := ⟨_, rfl⟩
      obtain ⟨j8, hj8'⟩ : ∃ z, z = v / 8 := ⟨_, rfl⟩
      obtain ⟨m8, hm8'⟩ : ∃ z, z = u % 8 := ⟨_, rfl⟩
      obtain ⟨n8, hn8'⟩ : ∃ z, z = v % 8 := ⟨_, rfl⟩
      rw [← hi8'] at f1 f2 q3 hi8 Hcu
      rw [← hj8'] at k1 k2 q4 hj8 Hcv
      rw [← hm8'] at q5 hm8 bu x1 y1 z1 Hcu
      rw [← hn8'] at q6 hn8 bv x2 y2 z2 Hcv
      obtain ⟨pu, hpu⟩ : ∃ z, z = 2 ^ m8 := ⟨_, rfl⟩
      obtain ⟨pv, hpv⟩ : ∃ z, z = 2 ^ n8 := ⟨_, rfl⟩
      rw [← hpu] at bu x1 y1 z1 Hcu
      rw [← hpv] at bv x2 y2 z2 Hcv
      obtain ⟨cu, hcu⟩ : ∃ z, z = xu ^^^ pu := ⟨_, rfl⟩
      obtain ⟨cv, hcv⟩ : ∃ z, z = xv ^^^ pv := ⟨_, rfl⟩
      rw [← hcu] at x1 y1 Hcu
      rw [← hcv] at x2 y2 Hcv
      have O3 := hid o3'
      have O4 := hid o4
      clear hi8' hj8' hm8' hn8' hpu hpv hcu hcv f5 k5 o3 o4 o3' hxu hxv
      go_wp2_with fail
      obtain ⟨w5, hw5⟩ : ∃ w5, w5 = (w4.setCell ⟨g, i8, none⟩ (.int .u8 cu)).setCell ⟨h, j8, none⟩ (.int .u8 cv) := ⟨_, rfl⟩
      rw [← hw5]
      have B4 : Below w.heap.size w w4 := B2.trans ((b3.trans (b4.mono b3.size)).mono B2.size)
      have B5 : Below w.heap.size w w5 := by
        rw [hw5]
        exact Below.setCell (Below.setCell B4 (p := ⟨g, i8, none⟩) (by dsimp only; omega) _) (p := ⟨h, j8, none⟩) (by dsimp only; have := b3.size; omega) _
      have P5 : Own 5 .u8 w2.heap.size w5 (.slice (some ⟨g, 0, none⟩) p capg) (bit p x u) := by
        rw [hw5, Hcu.out]
        exact (O3.out.set i8 _ (WalkArith.wf_u8 (by omega))).aside (fun b hb => by cases hb; exact gh) _
      have Q5 : Own 5 .u8 w3.heap.size w5 (.slice (some ⟨h, 0, none⟩) p caph) (bit p x v) := by
        rw [hw5, Hcv.out]
        exact (O4.out.aside (p := ⟨g, i8, none⟩) (fun b hb => by cases hb; exact Ne.symm gh) _).set j8 _ (WalkArith.wf_u8 (by omega))
      obtain ⟨aoc, cc, hvc, rc⟩ := P5.rd
      obtain ⟨aod, cd, hvd, rd⟩ := Q5.rd
      rw [bit_len Hl0.out hu8] at hvc rc
      rw [bit_len Hl0.out hv8] at hvd rd
      simp only [Value.slice.injEq] at hvc hvd
      obtain ⟨rfl, -, rfl⟩ := hvc
      obtain ⟨rfl, -, rfl⟩ := hvd
      have RC := hid rc
      have RD := hid rd
      have R0 := hid (W0.out.below B5)
      have L5 := hid (LW.out.below B5)
      obtain ⟨su, hsu⟩ : ∃ z, z = crcOf 0 (bit p x u) := ⟨_, rfl⟩
      obtain ⟨sv, hsv⟩ : ∃ z, z = crcOf 0 (bit p x v) := ⟨_, rfl⟩
      obtain ⟨s0, hs0⟩ : ∃ z, z = crcOf 0 x := ⟨_, rfl⟩
      have C1 := hid (sum_any _ _ _ _ w5 RC.out L5.out)
      have C2 := hid (sum_any _ _ _ _ w5 RD.out L5.out)
      have C0 := hid (sum_any _ _ _ _ w5 R0.out L5.out)
      rw [← hsu] at C1 Eq Hne
      rw [← hsv] at C2 Eq
      rw [← hs0] at C0 Hne
      have t1 : (((su : Nat) : Int) != (s0 : Int)) = true := by have := Hne.out; simp; omega
      have t2 : ((u : Int) == (v : Int)) = ((su : Int) == (sv : Int)) := by
        have := Eq.out
        rw [Bool.eq_iff_iff] at this ⊢
        simpa [Int.ofNat_inj] using this
      have T2 := hid t2
      clear t2 hw5 rc rd P5 Q5 hsu hsv hs0 f1 f2 k1 k2 q3 q4 q5 q6 z1 z2 x1 x2 b3 b4
      refine C1.out.mono ?_
      rintro e w' ⟨rfl, rfl⟩
      go_wp2_with fail
      refine C0.out.mono ?_
      rintro e w' ⟨rfl, rfl⟩
      go_wp2_with fail
      refine C1.out.mono ?_
      rintro e w' ⟨rfl, rfl⟩
      go_wp2_with fail
      refine C2.out.mono ?_
      rintro e w' ⟨rfl, rfl⟩
      go_wp2_with fail
      go_ret
      refine ⟨?_, B5⟩
      rw [T2.out]
      simp
end Go.Proofs.YtfhcekdfeiikbaaDoor
