import Derived.Test.YtfhcekdfeiikbaaDoorProg
import Derived.Test.YtfhcekdfeiikbaaDoorCrcMath
import Derived.Test.YtfhcekdfeiikbaaDoorShort
namespace Go.Proofs.YtfhcekdfeiikbaaDoor
open Go.RowKit

/-- The table, as it stands in memory. -/
def Laid (w : World) : Prop := ∀ i : Nat, i < 16 → w.cell? ⟨0, i, none⟩ = some (.int .u32 (tab i : Nat))
theorem Laid.below {w w' : World} (h : Laid w) (hb : Below w.heap.size w w') : Laid w' := fun i hi => by
  have hc := h i hi
  exact (hb.cell (World.block_lt_of_cell? w _ hc)).trans hc

theorem not32 (s : Nat) (hs : s < 4294967296) : bits BinOp.xor IntKind.u32 IntKind.u32.max (s : Int) = ((4294967295 - s : Nat) : Int) := by
  rw [show IntKind.u32.max = ((4294967295 : Nat) : Int) from by decide, u32_xor_nat _ _ (by decide) hs]
  rw [flip32 hs]
theorem half16 (c : Nat) : ((c / 16 : Nat) : Int) = (c : Int) / 16 := by simp
theorem xor32 (a b : Nat) (ha : a < 4294967296) (hb : b < 4294967296) : bits BinOp.xor IntKind.u32 (a : Int) (b : Int) = ((a ^^^ b : Nat) : Int) := u32_xor_nat a b ha hb
theorem and15 (a : Nat) (ha : a < 4294967296) : bits BinOp.and IntKind.u32 (a : Int) 15 = ((a % 16 : Nat) : Int) := by
  rw [show (15 : Int) = ((15 : Nat) : Int) from rfl, u32_and_nat a 15 ha (by decide), nat_mask4]

set_option maxHeartbeats 400000 in
theorem more_any (s : Nat) (ao : Option Addr) (n cap : Nat) (xs : List Int) (w : World) (hr : Rd .u8 w ao n cap xs) (hL : Laid w) (hs : s < 4294967296) :
    Calls Tryd.prog 12 #[.int .u32 (s : Nat), .slice ao n cap] w fun e w' => e = .returned (.int .u32 (crcOf s xs : Nat)) ∧ w = w' := by
  have hc63 := hr.cap63
  have hle := hr.le
  have Hr := hid hr
  have HL := hid hL
  obtain ⟨c0, hc0⟩ : ∃ c0 : Nat, c0 = 4294967295 - s := ⟨_, rfl⟩
  have e0 := not32 s hs
  rw [← hc0] at e0
  have Hc0 := hid hc0
  have hc0b : c0 < 4294967296 := by omega
  clear hr hL hc0
  go_enter Tryd.func12, Tryd.ntmps12
  go_wp2
  go_loop [5, 12] (fun c i => ∃ k c' : Nat, k ≤ n ∧ i = .int .i64 k ∧ c = .int .u32 c' ∧ c' < 4294967296 ∧ Hid (c' = run c0 (xs.take k))) (fun _ i => n - (intOf i).toNat)
  case atStart => exact ⟨0, c0, Nat.zero_le _, rfl, rfl, hc0b, by simp [run, Hid]⟩
  case round =>
    obtain ⟨k, c, hk, rfl, rfl, hcb, Hc⟩ := hrel
    by_cases hlt : k < n
    · obtain ⟨b, off, rfl, hcell⟩ := Hr.out.at (by omega)
      have hck := hcell k hlt
      have hbd := bounds_u8 (Hr.out.wf (xs.getD k 0) (by
        have : k < xs.length := by rw [Hr.out.len]; exact hlt
        simp [List.getD, this]))
      obtain ⟨x, hx⟩ : ∃ x : Nat, xs.getD k 0 = (x : Int) := ⟨(xs.getD k 0).toNat, by omega⟩
      rw [hx] at hck hbd
      have hx8 : x ≤ 255 := by omega
      obtain ⟨c1, hc1⟩ : ∃ c1, c1 = c ^^^ x := ⟨_, rfl⟩
      obtain ⟨c2, hc2⟩ : ∃ c2, c2 = its 4 c1 := ⟨_, rfl⟩
      have hc1b : c1 < 4294967296 := by rw [hc1]; exact xor_lt32 hcb (by omega)
      have hc2b : c2 < 4294967296 := by rw [hc2]; exact its_lt 4 hc1b
      have x1 := xor32 c x hcb (by omega)
      rw [← hc1] at x1
      obtain ⟨i1, hi1⟩ : ∃ i, i = c1 % 16 := ⟨_, rfl⟩
      obtain ⟨i2, hi2⟩ : ∃ i, i = c2 % 16 := ⟨_, rfl⟩
      have a1 := and15 c1 hc1b
      have a2 := and15 c2 hc2b
      rw [← hi1] at a1
      rw [← hi2] at a2
      have l1 := HL.out i1 (by omega)
      have l2 := HL.out i2 (by omega)
      have x2 := xor32 (c1 / 16) (tab i1) (by omega) (tab_lt _)
      have x3 := xor32 (c2 / 16) (tab i2) (by omega) (tab_lt _)
      rw [hi1, nib, ← hc2, ← hi1, half16] at x2
      rw [hi2, nib, ← hi2, half16] at x3
      have hi1b : i1 < 16 := by omega
      have hi2b : i2 < 16 := by omega
      have Hrest := hid (show its 4 c2 = run c0 (xs.take (k + 1)) by
        have hxs : xs.take (k + 1) = xs.take k ++ [(x : Int)] := by
          have hkl : k < xs.length := by rw [Hr.out.len]; exact hlt
          rw [List.take_succ_eq_append_getElem hkl, ← hx]
          simp [List.getD, hkl]
        rw [hxs, run_snoc, ← Hc.out, hc2, hc1, ← its_add]
        rfl)
      clear hi1 hi2 hc1 hc2 hx hcell
      go_wp2
      go_round
      case rel => exact ⟨k + 1, _, by omega, by go_num, rfl, its_lt 4 hc2b, Hrest.out⟩
      case measure => simp [intOf]; omega
    · have hkn : k = n := by omega
      subst hkn
      have e1 := not32 c hcb
      have Hlen := hid Hr.out.len
      clear hlt
      go_wp2
      go_ret
      refine ⟨?_, rfl⟩
      unfold crcOf
      rw [Hc.out, Hc0.out, List.take_of_length_le (by rw [Hlen.out]; exact Nat.le_refl _)]
      rfl

theorem sum_any (ao : Option Addr) (n cap : Nat) (xs : List Int) (w : World) (hr : Rd .u8 w ao n cap xs) (hL : Laid w) :
    Calls Tryd.prog 10 #[.slice ao n cap] w fun e w' => e = .returned (.int .u32 (crcOf 0 xs : Nat)) ∧ w = w' := by
  go_enter Tryd.func10, Tryd.ntmps10
  go_wp2_with (go_at_call 12; refine (more_any 0 ao n cap xs w hr hL (by decide)).mono ?_; rintro e w' ⟨rfl, rfl⟩)
  go_ret
  exact ⟨rfl, rfl⟩

theorem stp_odd (c : Nat) (h : c % 2 = 1) (hc : c < 4294967296) : bits BinOp.xor IntKind.u32 ((c : Int) / 2) 3988292384 = ((stp c : Nat) : Int) := by
  have := u32_xor_nat (c / 2) 3988292384 (by omega) (by decide)
  unfold stp
  rw [if_pos h, ← this]
  simp
theorem stp_even (c : Nat) (h : c % 2 = 0) : (c : Int) / 2 = ((stp c : Nat) : Int) := by
  unfold stp
  rw [if_neg (by omega)]
  simp

set_option maxHeartbeats 400000 in
theorem refSum_any (ao : Option Addr) (n cap : Nat) (xs : List Int) (w : World) (hr : Rd .u8 w ao n cap xs) :
    Calls Tryd.prog 11 #[.slice ao n cap] w fun e w' => e = .returned (.int .u32 (crcOf 0 xs : Nat)) ∧ w = w' := by
  have hc63 := hr.cap63
  have hle := hr.le
  have Hr := hid hr
  clear hr
  go_enter Tryd.func11, Tryd.ntmps11
  go_wp2
  go_loop [3, 4, 5] (fun c i _ => ∃ k c' : Nat, k ≤ n ∧ i = .int .i64 k ∧ c = .int .u32 c' ∧ c' < 4294967296 ∧ Hid (c' = run 4294967295 (xs.take k))) (fun _ i _ => n - (intOf i).toNat)
  case atStart => exact ⟨0, 4294967295, Nat.zero_le _, rfl, rfl, by decide, by simp [run, Hid]⟩
  case round =>
    obtain ⟨k, c, hk, rfl, rfl, hcb, Hc⟩ := hrel
    by_cases hlt : k < n
    · obtain ⟨b, off, rfl, hcell⟩ := Hr.out.at (by omega)
      have hck := hcell k hlt
      have hbd := bounds_u8 (Hr.out.wf (xs.getD k 0) (by
        have : k < xs.length := by rw [Hr.out.len]; exact hlt
        simp [List.getD, this]))
      obtain ⟨x, hx⟩ : ∃ x : Nat, xs.getD k 0 = (x : Int) := ⟨(xs.getD k 0).toNat, by omega⟩
      rw [hx] at hck hbd
      obtain ⟨c1, hc1⟩ : ∃ c1, c1 = c ^^^ x := ⟨_, rfl⟩
      have hc1b : c1 < 4294967296 := by rw [hc1]; exact xor_lt32 hcb (by omega)
      have x1 := xor32 c x hcb (by omega)
      rw [← hc1] at x1
      have Hrest := hid (show its 8 c1 = run 4294967295 (xs.take (k + 1)) by
        have hxs : xs.take (k + 1) = xs.take k ++ [(x : Int)] := by
          have hkl : k < xs.length := by rw [Hr.out.len]; exact hlt
          rw [List.take_succ_eq_append_getElem hkl, ← hx]
          simp [List.getD, hkl]
        rw [hxs, run_snoc, ← Hc.out, hc1]
        rfl)
      clear hc1 hx hcell
      go_wp2
      go_loop [3, 5] (fun c i => ∃ j c' : Nat, j ≤ 8 ∧ i = .int .i64 j ∧ c = .int .u32 c' ∧ c' < 4294967296 ∧ Hid (its (8 - j) c' = its 8 c1)) (fun _ i => 8 - (intOf i).toNat)
      case atStart => exact ⟨0, c1, by omega, rfl, rfl, hc1b, by simp [Hid]⟩
      case round =>
        obtain ⟨j, d, hj, rfl, rfl, hdb, Hd⟩ := hrel
        by_cases hj8 : j < 8
        · have hnext : its (8 - (j + 1)) (stp d) = its 8 c1 := by
            rw [← Hd.out, show 8 - j = (8 - (j + 1)) + 1 from by omega, its]
          have Hnext := hid hnext
          clear hnext
          rcases Nat.mod_two_eq_zero_or_one d with h2 | h2
          · have e1 := stp_even d h2
            have ht : ((d : Int) % 2 == 1) = false := by simp; omega
            clear h2
            go_wp2
            go_round
            case rel => exact ⟨j + 1, _, by omega, by go_num, rfl, stp_lt hdb, Hnext.out⟩
            case measure => simp [intOf]; omega
          · have e1 := stp_odd d h2 hdb
            have ht : ((d : Int) % 2 == 1) = true := by simp; omega
            clear h2
            go_wp2
            go_round
            case rel => exact ⟨j + 1, _, by omega, by go_num, rfl, stp_lt hdb, Hnext.out⟩
            case measure => simp [intOf]; omega
        · obtain rfl : j = 8 := by omega
          go_wp2
          go_round
          case rel => exact ⟨k + 1, d, by omega, by go_num, rfl, hdb, by show _ = _; rw [← Hrest.out, ← Hd.out]; rfl⟩
          case measure => simp [intOf]; omega
    · have hkn : k = n := by omega
      subst hkn
      have e1 := not32 c hcb
      have Hlen := hid Hr.out.len
      clear hlt
      go_wp2
      go_ret
      refine ⟨?_, rfl⟩
      unfold crcOf
      rw [Hc.out, List.take_of_length_le (by rw [Hlen.out]; exact Nat.le_refl _)]
      rfl
end Go.Proofs.YtfhcekdfeiikbaaDoor
