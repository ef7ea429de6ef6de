/- diapauseref5.EqBody. -/
import Derived.Test.YtfambbpggodlkaaCodeLit
namespace Go.Proofs.Ytfambbpggodlkaa
open Go.RowKit

set_option maxRecDepth 100000 in
set_option maxHeartbeats 2000000 in
theorem eqBody_to (C C' : Addr → Prop) (ao ao' : Option Addr) (n n' cap cap' : Nat) (is : List Ins) (w : World) (hr : RdP w C ao n cap is) (hr' : RdP w C' ao' n' cap' is) :
    Calls Try.prog 23 #[.slice ao n cap, .slice ao' n' cap'] w fun e w' => e = .returned (.bool true) ∧ Below w.heap.size w w' := by
  have hnn : n' = n := by rw [← hr.len, ← hr'.len]
  subst hnn
  have hn63 : n' ≤ 9223372036854775807 := by have h1 := hr.le; have h2 := hr.max; unfold maxLen at h2; omega
  have Hr := hid hr
  have Hr' := hid hr'
  clear hr hr'
  go_enter Try.func23, Try.ntmps23
  go_wp2_with fail
  go_loopw [5] (fun i wr => ∃ k : Nat, k ≤ n' ∧ i = .int .i64 k ∧ Below w.heap.size w wr) (fun i _ => n' - (intOf i).toNat)
  case atStart => exact ⟨0, Nat.zero_le _, rfl, Below.refl _ _⟩
  case round =>
    obtain ⟨k, hk, rfl, hb⟩ := hrel
    have HB := hid hb
    clear hb
    by_cases hkn : k < n'
    · have HR := hid (Hr.out.below HB.out)
      have HR' := hid (Hr'.out.below HB.out)
      obtain ⟨b, off, lo, ln, lc, rfl, c0, c1, c2, c3, hrl, _⟩ := HR.out.cell k hkn
      obtain ⟨b', off', lo', ln', lc', rfl, d0, d1, d2, d3, hrl', _⟩ := HR'.out.cell k hkn
      obtain ⟨⟨op, p, q, l⟩, hI⟩ : ∃ I, I = is.getD k default := ⟨_, rfl⟩
      rw [← hI] at c0 c1 c2 d0 d1 d2 hrl hrl'
      simp only at c0 c1 c2 d0 d1 d2 hrl hrl'
      have hlb := World.block_lt_of_cell? _ _ c0
      have hlb' := World.block_lt_of_cell? _ _ d0
      have HL := hid hrl
      have HL' := hid hrl'
      have k0 : (k : Int) < n' := by omega
      simp only at hlb hlb'
      clear hI hrl hrl'
      go_wp2_with fail
      refine wp_region_quiet_below (by kernel_rfl) (by kernel_rfl) ?_
      have hbc := fun x => @Bw.cell wr x
      repeat (go_big_quiet_step (first
        | (go_at_call 32; exact Calls.bw (eqInstr_to op p q lo ln lc l op p q lo' ln' lc' l true (eqI_refl _ _ _ _) _ (HL.out.below (Bw.h _)) (HL'.out.below (Bw.h _))))))
      refine wpQuiet_nil ?_
      rintro _ ⟨x, rfl⟩
      have HB2 := hid (HB.out.trans (x.h.mono HB.out.size))
      clear hbc c0 c1 c2 c3 d0 d1 d2 d3 hlb hlb' HL HL'
      generalize x.w = w5 at HB2 ⊢
      go_wp2_with fail
      go_roundw
      case rel => exact ⟨k + 1, by omega, by go_num, HB2.out⟩
      case measure => simp [intOf]; omega
    · have hkk : k = n' := by omega
      subst hkk
      go_wp2_with fail
      go_ret
      exact ⟨rfl, HB.out⟩
end Go.Proofs.Ytfambbpggodlkaa
