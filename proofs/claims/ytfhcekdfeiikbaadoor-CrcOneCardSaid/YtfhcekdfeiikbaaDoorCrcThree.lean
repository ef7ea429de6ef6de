import Derived.Test.YtfhcekdfeiikbaaDoorCrcMany
import Derived.BigRegion
import Derived.Deep.QuietTactic
import Derived.BigQuiet
namespace Go.Proofs.YtfhcekdfeiikbaaDoor
open Go.RowKit

/-- The first m of n are written. -/
def part (xs ys zs : List Int) (n m : Nat) : List Int := (List.range n).map fun i => if i < m then ((x3 xs ys zs i : Nat) : Int) else 0

set_option maxRecDepth 100000 in
set_option maxHeartbeats 800000 in
theorem crcThree_walk (pa pb pc : Option Addr) (n0 c0 n1 c1 n2 c2 : Nat) (xs ys zs : List Int) (w : World) (h0 : Rd .u8 w pa n0 c0 xs) (h1 : Rd .u8 w pb n1 c1 ys) (h2 : Rd .u8 w pc n2 c2 zs) (hL : Laid w) :
    Calls Tryd.prog 5 #[.slice pa n0 c0, .slice pb n1 c1, .slice pc n2 c2] w fun e w' => e = .returned (.bool true) ∧ Below w.heap.size w w' := by
  obtain ⟨i0, hi, hz0, hz1, hz2⟩ := info_parts infoU8
  have l0 := h0.le
  have l1 := h1.le
  have l2 := h2.le
  have m0 := h0.cap63
  have m1 := h1.cap63
  have m2 := h2.cap63
  have H0 := hid h0
  have H1 := hid h1
  have H2 := hid h2
  obtain ⟨n, hn⟩ : ∃ n, n = min (min n0 100) (min n1 n2) := ⟨_, rfl⟩
  have hn0 : n ≤ n0 := by omega
  have hn1 : n ≤ n1 := by omega
  have hn2 : n ≤ n2 := by omega
  have hn3 : n ≤ 100 := by omega
  have Hn := hid hn
  have hb : i0.bytes * n ≤ 281474976710656 := by rw [hz2]; omega
  obtain ⟨k1, hk1⟩ : ∃ k1, k1 = min n0 100 := ⟨_, rfl⟩
  obtain ⟨k2, hk2⟩ : ∃ k2, k2 = min n1 n2 := ⟨_, rfl⟩
  have q1 : (if (100 : Int) < (n0 : Int) then (100 : Int) else n0) = (k1 : Int) := by split <;> omega
  have q2 : (if n2 < n1 then (n2 : Int) else n1) = (k2 : Int) := by split <;> omega
  have q3 : (if k2 < k1 then (k2 : Int) else k1) = (n : Int) := by split <;> omega
  clear h0 h1 h2 hz2 hn hk1 hk2
  go_enter Tryd.func5, Tryd.ntmps5
  go_wp2_with fail
  refine (begun_any w hL).mono ?_
  rintro e w1 ⟨rfl, b1⟩
  go_wp2_with (at_make; refine wpList_make_full _ rfl _ _ 22 rfl w1.heap.size 5 i0 (.int .u8 0) 1 Tryd.underlying22 hi hz0 hz1 _ _ _ _ n rfl rfl rfl rfl hb (by unfold maxLen; omega) (Nat.le_refl _) ?_; intro w2 o2 g2)
  have B2 : Below w.heap.size w w2 := b1.trans (((Below.refl _ _).grown g2 (Nat.le_refl _) (fun _ h => by cases h)).mono b1.size)
  have O2 : Own 5 .u8 w.heap.size w2 (.slice (some ⟨w1.heap.size, 0, none⟩) n n) (part xs ys zs n 0) := by
    have e : (madeCells (Value.int .u8 0).cells (n * 1)).toList = (part xs ys zs n 0).map (Value.int .u8) := by
      simp [madeCells, Value.cells, part, List.map_map, Function.comp_def, Nat.mod_one, Array.toList_map, Array.toList_range]
    refine ⟨?_, fun z hz => ?_⟩
    · rw [e] at o2
      have hl : (part xs ys zs n 0).length = n := by simp [part]
      rw [hl]
      exact ⟨o2.1, o2.2.imp id fun ⟨g, cap, cur, h1, h2, h3⟩ => ⟨g, cap, cur, h1, Nat.le_trans b1.size h2, h3⟩⟩
    · simp [part] at hz
      rw [← hz.2]
      decide
  obtain ⟨g, hg⟩ : ∃ g, g = w1.heap.size := ⟨_, rfl⟩
  rw [← hg] at O2 ⊢
  clear o2 g2 hg b1 hi hz0 hz1 hb q1 q2 q3
  go_loopw [10] (fun i wr => ∃ k : Nat, i = .int .i64 k ∧ k ≤ n ∧ Own 5 .u8 w.heap.size wr (.slice (some ⟨g, 0, none⟩) n n) (part xs ys zs n k) ∧ Below w.heap.size w wr) (fun i _ => n - (intOf i).toNat)
  case atStart => exact ⟨0, rfl, by omega, O2, B2⟩
  case round =>
    obtain ⟨k, rfl, hk, O, B⟩ := hrel
    by_cases hkn : k < n
    · obtain ⟨ba, fa, rfl, ca⟩ := H0.out.at (by omega)
      obtain ⟨bb, fb, rfl, cb⟩ := H1.out.at (by omega)
      obtain ⟨bc, fc, rfl, cc⟩ := H2.out.at (by omega)
      have da := ca k (by omega)
      have db := cb k (by omega)
      have dc := cc k (by omega)
      have ea := (B.cell (World.block_lt_of_cell? w _ da)).trans da
      have eb := (B.cell (World.block_lt_of_cell? w _ db)).trans db
      have ec := (B.cell (World.block_lt_of_cell? w _ dc)).trans dc
      have hl : (part xs ys zs n k).length = n := by simp [part]
      obtain ⟨f1, f2, f3, f4, f5⟩ := O.cell k (by omega)
      clear f5
      have va := bounds_u8 (H0.out.wf _ (Rd.mem H0.out (i := k) (by omega)))
      have vb := bounds_u8 (H1.out.wf _ (Rd.mem H1.out (i := k) (by omega)))
      have vc := bounds_u8 (H2.out.wf _ (Rd.mem H2.out (i := k) (by omega)))
      have Hx := hid (show part xs ys zs n (k + 1) = (part xs ys zs n k).set k ((x3 xs ys zs k : Nat) : Int) from by
        refine List.ext_getElem (by simp [part]) fun j hj hj' => ?_
        simp only [part, List.getElem_map, List.getElem_range, List.getElem_set]
        by_cases e : k = j
        · subst e; simp
        · rw [if_neg e]
          simp [show (j < k + 1) = (j < k) from by apply propext; omega])
      obtain ⟨x, hx⟩ : ∃ x : Nat, xs.getD k 0 = (x : Int) := ⟨(xs.getD k 0).toNat, by omega⟩
      obtain ⟨y, hy⟩ : ∃ y : Nat, ys.getD k 0 = (y : Int) := ⟨(ys.getD k 0).toNat, by omega⟩
      obtain ⟨z, hz⟩ : ∃ z : Nat, zs.getD k 0 = (z : Int) := ⟨(zs.getD k 0).toNat, by omega⟩
      obtain ⟨p, hp⟩ : ∃ p : Int, (part xs ys zs n k).getD k 0 = p := ⟨_, rfl⟩
      have e3 : x3 xs ys zs k = x ^^^ y ^^^ z := by rw [x3, hx, hy, hz]; rfl
      rw [e3] at Hx
      rw [hx] at ea va
      rw [hy] at eb vb
      rw [hz] at ec vc
      rw [hp] at f1
      have hxy : x ^^^ y < 256 := Nat.xor_lt_two_pow (n := 8) (by omega) (by omega)
      have hxyz : x ^^^ y ^^^ z < 256 := Nat.xor_lt_two_pow (n := 8) hxy (by omega)
      have q1 := u8_xor_nat x y (by omega) (by omega)
      have q2 := u8_xor_nat (x ^^^ y) z hxy (by omega)
      obtain ⟨xy, hxy'⟩ : ∃ xy, xy = x ^^^ y := ⟨_, rfl⟩
      obtain ⟨xyz, hxyz'⟩ : ∃ xyz, xyz = xy ^^^ z := ⟨_, rfl⟩
      rw [← hxy'] at q1 q2 Hx hxyz
      rw [← hxyz'] at q2 Hx hxyz
      have HO := hid O
      clear ca cb cc da db dc hl hx hy hz hp e3 hxy hxy' hxyz' O
      go_wp2_with fail
      go_region
      go_wp2
      go_roundw
      case rel =>
        refine ⟨k + 1, by go_num, by omega, ?_, (Below.setCell B (p := ⟨g, k, none⟩) f3 _).drew⟩
        rw [Hx.out]
        exact (HO.out.set k _ (WalkArith.wf_u8 (by omega))).drew
      case measure => simp [intOf]; omega
    · obtain rfl : k = n := by omega
      have L := hid (hL.below B)
      obtain ⟨ds, hds⟩ : ∃ ds, ds = part xs ys zs k k := ⟨_, rfl⟩
      rw [← hds] at O
      have hdl : ds.length = k := by rw [hds]; simp [part]
      obtain ⟨aog, capg, hv, rg⟩ := O.rd
      rw [hdl] at hv rg
      simp only [Value.slice.injEq] at hv
      obtain ⟨rfl, -, rfl⟩ := hv
      have Rg := hid rg
      have ra := hid ((H0.out.upto hn0).below B)
      have rb := hid ((H1.out.upto hn1).below B)
      have rc := hid ((H2.out.upto hn2).below B)
      have ka := run_cut_h 22 elem_u8 size_u8 pa n0 c0 (k : Int) k rfl (by omega)
      have kb := run_cut_h 22 elem_u8 size_u8 pb n1 c1 (k : Int) k rfl (by omega)
      have kc := run_cut_h 22 elem_u8 size_u8 pc n2 c2 (k : Int) k rfl (by omega)
      have hda : ds = all3 xs ys zs k := by
        rw [hds, part, all3]
        refine List.map_congr_left fun i hi => ?_
        rw [if_pos (List.mem_range.1 hi)]
      have Hq := hid (crc_three xs ys zs H0.out.bytes H1.out.bytes H2.out.bytes k (by rw [H0.out.len]; exact hn0) (by rw [H1.out.len]; exact hn1) (by rw [H2.out.len]; exact hn2))
      rw [← hda] at Hq
      clear O hds hda hdl rg hkn
      go_wp2_with fail
      go_quiet ((first
        | (go_at_call 10; exact Calls.quiet_eq (sum_any _ _ _ ds _ (Rg.out.below (below_drewN _ _ _)) (L.out.below (below_drewN _ _ _))))
        | (go_at_call 10; exact Calls.quiet_eq (sum_any _ _ _ (xs.take k) _ (ra.out.below (below_drewN _ _ _)) (L.out.below (below_drewN _ _ _))))
        | (go_at_call 10; exact Calls.quiet_eq (sum_any _ _ _ (ys.take k) _ (rb.out.below (below_drewN _ _ _)) (L.out.below (below_drewN _ _ _))))
        | (go_at_call 10; exact Calls.quiet_eq (sum_any _ _ _ (zs.take k) _ (rc.out.below (below_drewN _ _ _)) (L.out.below (below_drewN _ _ _))))))
      go_wp2
      go_ret
      refine ⟨?_, B.trans (below_drewN _ _ _)⟩
      have e1 := xor32 _ _ (crc_lt 0 (xs.take k)) (crc_lt 0 (ys.take k))
      have e2 := xor32 _ _ (xor_lt32 (crc_lt 0 (xs.take k)) (crc_lt 0 (ys.take k))) (crc_lt 0 (zs.take k))
      rw [e1, e2, Hq.out]
      simp
end Go.Proofs.YtfhcekdfeiikbaaDoor
