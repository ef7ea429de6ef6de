import Derived.Test.YtfhcekdfeiikbaaDoorCrcLaws
namespace Go.Proofs.YtfhcekdfeiikbaaDoor
open Go.RowKit

theorem elem_u8 : Tryd.prog.underlying 22 = some (.slice (Tryd.prog.elem 22)) := by kernel_rfl
theorem size_u8 (w : World) : (sizeOf (Tryd.prog.elem 22)).run Tryd.prog w = .ok 1 w := by kernel_rfl

set_option maxRecDepth 100000 in
set_option maxHeartbeats 800000 in
theorem crcMany_walk (pa pb : Option Addr) (n0 c0 n1 c1 : Nat) (xs ys : List Int) (w : World) (h0 : Rd .u8 w pa n0 c0 xs) (h1 : Rd .i64 w pb n1 c1 ys) (hL : Laid w) :
    Calls Tryd.prog 6 #[.slice pa n0 c0, .slice pb n1 c1] w fun e w' => e = .returned (.bool true) ∧ Below w.heap.size w w' := by
  have s0 := h0.short 300
  have l0 := h0.le
  have l1 := h1.le
  have m0 := h0.cap63
  have m1 := h1.cap63
  obtain ⟨x, hx⟩ : ∃ x, x = xs.take (min n0 300) := ⟨_, rfl⟩
  rw [← hx] at s0
  obtain ⟨p, hp⟩ : ∃ p, p = min n0 300 := ⟨_, rfl⟩
  have HS0 := hid (short_any pa n0 c0 300 · l0 m0 (by omega))
  rw [← hp] at s0 HS0
  have hp3 : p ≤ 300 := by omega
  clear hx hp h0
  have X := hid s0.bytes
  have hlx := s0.len
  have Hlx := hid hlx
  have hpc := s0.le
  have H1 := hid h1
  clear hlx h1
  go_enter Tryd.func6, Tryd.ntmps6
  go_wp2_with fail
  refine (begun_any w hL).mono ?_
  rintro e w1 ⟨rfl, b1⟩
  go_wp2_with fail
  refine (HS0.out w1).mono ?_
  rintro e w' ⟨rfl, rfl⟩
  have S1 := hid (s0.below b1)
  have L1 := hid (hL.below b1)
  clear s0 hL
  go_wp2_with fail
  go_loop [6, 7, 8] (fun s at_ i => ∃ k a : Nat, i = .int .i64 k ∧ at_ = .int .i64 a ∧ s = .int .u32 (crcOf 0 (x.take a) : Nat) ∧ k ≤ 40 ∧ a ≤ p) (fun _ _ i => 40 - (intOf i).toNat)
  case atStart => exact ⟨0, 0, rfl, rfl, by simp [crcOf, run], by omega, by omega⟩
  case round =>
    obtain ⟨k, a, rfl, rfl, rfl, hk, ha⟩ := hrel
    rcases (show (k < n1 ∧ k < 40) ∨ (k < n1 ∧ k = 40) ∨ ¬ k < n1 from by omega) with ⟨hk1, hk2⟩ | ⟨hk1, rfl⟩ | hk1
    · obtain ⟨bb, off, rfl, hcell⟩ := H1.out.at (by omega)
      have hck := hcell k hk1
      have hlt := World.block_lt_of_cell? w _ hck
      have hck1 := (b1.cell hlt).trans hck
      obtain ⟨y, hy⟩ : ∃ y, y = ys.getD k 0 := ⟨_, rfl⟩
      rw [← hy] at hck1
      have t1 : -40 < y.tmod 40 := Int.lt_tmod_of_pos _ (by decide)
      have t2 : y.tmod 40 < 40 := Int.tmod_lt_of_pos _ (by decide)
      obtain ⟨m, hm⟩ : ∃ m, m = y.tmod 40 := ⟨_, rfl⟩
      rw [← hm] at t1 t2
      have hm' := hm.symm
      clear hm hcell hck hlt hy
      obtain ⟨d, hd⟩ : ∃ d : Nat, (d : Int) = min ((p : Int) - a) (m % 40) := ⟨(min ((p : Int) - a) (m % 40)).toNat, by omega⟩
      have hd1 : a + d ≤ p := by omega
      have hcut := run_cut 22 elem_u8 size_u8 pa p c0 (a : Int) ((a : Int) + d) a (a + d) rfl (by omega) (by omega) (by omega)
      have hcut2 := run_cut_h 22 elem_u8 size_u8 pa p c0 ((a : Int) + d) (a + d) (by omega) (by omega)
      rw [show a + d - a = d from by omega] at hcut
      have C1 := hid (S1.out.cut a (a + d) (by omega) hd1)
      have C2 := hid (S1.out.upto hd1)
      rw [show a + d - a = d from by omega] at C1
      have Hm := hid (show crcOf (crcOf 0 (x.take a)) ((x.take (a + d)).drop a) = crcOf 0 (x.take (a + d)) from by
        rw [crc_more _ _ _ (fun z hz => X.out z (List.mem_of_mem_take hz))]
        congr 1
        have := List.take_append_drop a (x.take (a + d))
        rwa [List.take_take, Nat.min_eq_left (by omega)] at this)
      rcases (show (m % 40 < (p : Int) - a ∧ m % 40 = d) ∨ (¬ m % 40 < (p : Int) - a ∧ (p : Int) - a = d) from by omega) with ⟨hlt, hq⟩ | ⟨hlt, hq⟩
      all_goals
        clear hd
        go_wp2_with fail
        refine (more_any _ _ _ _ _ w1 C1.out L1.out (crc_lt _ _)).mono ?_
        rintro e w' ⟨rfl, rfl⟩
        rw [Hm.out]
        go_wp2_with fail
        refine (sum_any _ _ _ _ w1 C2.out L1.out).mono ?_
        rintro e w' ⟨rfl, rfl⟩
        go_wp2_with fail
        go_round
        case rel => exact ⟨k + 1, a + d, by go_num, by go_num, rfl, by omega, by omega⟩
        case measure => simp [intOf]; omega
    · have hcut := run_cut_l 22 elem_u8 size_u8 pa p c0 (a : Int) a rfl ha
      have C1 := hid (S1.out.cut a p ha (Nat.le_refl _))
      have hlen : x.take p = x := List.take_of_length_le (by rw [Hlx.out]; exact Nat.le_refl _)
      rw [hlen] at C1
      have Hm := hid (show crcOf (crcOf 0 (x.take a)) (x.drop a) = crcOf 0 x from by
        rw [crc_more _ _ _ (fun z hz => X.out z (List.mem_of_mem_take hz)), List.take_append_drop])
      clear hlen
      go_wp2_with fail
      refine (more_any _ _ _ _ _ w1 C1.out L1.out (crc_lt _ _)).mono ?_
      rintro e w' ⟨rfl, rfl⟩
      rw [Hm.out]
      go_wp2_with fail
      refine (sum_any _ _ _ _ w1 S1.out L1.out).mono ?_
      rintro e w' ⟨rfl, rfl⟩
      go_wp2_with fail
      go_ret
      exact ⟨by simp, b1⟩
    · have hcut := run_cut_l 22 elem_u8 size_u8 pa p c0 (a : Int) a rfl ha
      have C1 := hid (S1.out.cut a p ha (Nat.le_refl _))
      have hlen : x.take p = x := List.take_of_length_le (by rw [Hlx.out]; exact Nat.le_refl _)
      rw [hlen] at C1
      have Hm := hid (show crcOf (crcOf 0 (x.take a)) (x.drop a) = crcOf 0 x from by
        rw [crc_more _ _ _ (fun z hz => X.out z (List.mem_of_mem_take hz)), List.take_append_drop])
      clear hlen
      go_wp2_with fail
      refine (more_any _ _ _ _ _ w1 C1.out L1.out (crc_lt _ _)).mono ?_
      rintro e w' ⟨rfl, rfl⟩
      rw [Hm.out]
      go_wp2_with fail
      refine (sum_any _ _ _ _ w1 S1.out L1.out).mono ?_
      rintro e w' ⟨rfl, rfl⟩
      go_wp2_with fail
      go_ret
      exact ⟨by simp, b1⟩
end Go.Proofs.YtfhcekdfeiikbaaDoor
