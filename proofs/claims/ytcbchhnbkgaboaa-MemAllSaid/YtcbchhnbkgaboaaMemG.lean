/- mem: Grow, Clean, Page, SetPage, Dirty; bytes.Clone. -/
import Derived.Test.YtcbchhnbkgaboaaMemS
namespace Go.Proofs.Ytcbchhnbkgaboaa
open Go.RowKit

theorem mayM_no {M : MM} (h : M.ok) {n : Int} (hn : 16 < n) : mayM M n = false := by
  have := h.ql
  unfold mayM; simp; omega
theorem grow_no (g : Nat) (M : MM) (n : Int) (w : World) (hM : MemAt w g M) (hh : mayM M n = false) :
    Calls Try.prog 13 #[.pointer (some ⟨g, 0, none⟩), .int .i64 n] w fun e w' => e = .returned (.int .i64 (-1)) ∧ Below w.heap.size w w' := by
  have hs := canGrow_to g M n w hM
  rw [hh] at hs
  clear hM hh
  go_enter Try.func13, Try.ntmps13
  go_wp2_with fail
  refine hs.mono ?_
  rintro e w' ⟨rfl, hb⟩
  go_wp2_with fail
  go_ret
  exact ⟨rfl, hb⟩
theorem grow_nil (n : Int) (w : World) :
    Calls Try.prog 13 #[.pointer none, .int .i64 n] w fun e w' => e = .returned (.int .i64 (-1)) ∧ w = w' := by
  go_enter Try.func13, Try.ntmps13
  go_wp2_with fail
  go_ret
  exact ⟨rfl, rfl⟩
theorem MemAt.setp {w : World} {g : Nat} {M : MM} (h : MemAt w g M) (p : Nat) (hp : M.p ≤ p) (h16 : p ≤ 16) : MemAt (w.setCell ⟨g, 0, none⟩ (.int .i64 (p : Int))) g { M with p := p } := by
  refine ⟨⟨h.ok.cl, h.ok.dl, h.ok.wf, h16, h.ok.ql, fun j hj => h.ok.zero j (by simp only at hj; omega)⟩, ?_⟩
  have := h.blk.set 0 (.int .i64 (p : Int))
  rwa [memL_p] at this
theorem grow_to (g : Nat) (M : MM) (n : Nat) (w : World) (hM : MemAt w g M) (hh : (M.p : Int) + n ≤ M.q) :
    Calls Try.prog 13 #[.pointer (some ⟨g, 0, none⟩), .int .i64 (n : Int)] w fun e w' => e = .returned (.int .i64 (M.p : Int)) ∧ MemAt w' g (growM M n) ∧ Wr g w w' := by
  have hp := hM.ok.pl
  have hq := hM.ok.ql
  have hs := canGrow_to g M n w hM
  rw [show mayM M n = true by unfold mayM; simp; omega] at hs
  go_enter Try.func13, Try.ntmps13
  go_wp2_with fail
  refine hs.mono ?_
  rintro e w1 ⟨rfl, hb⟩
  have hA := hM.bl hb
  have c0 := hA.c0
  have f0 := hA.fr 0
  have hA2 := hA.setp (M.p + n) (by omega) (by omega)
  have e0 : ((M.p + n : Nat) : Int) = (M.p : Int) + n := by omega
  rw [e0] at hA2
  have HA := hid (And.intro hA2 ((Wr.of (g := g) hb).set 0 (.int .i64 ((M.p : Int) + n))))
  clear hM hA hA2 hs hb e0
  have h16 : M.p + n ≤ 16 := by omega
  go_wp2_with fail
  obtain ⟨hA, hW⟩ := HA.out
  clear c0 f0 HA
  generalize w1.setCell ⟨g, 0, none⟩ (.int .i64 ((M.p : Int) + n)) = w2 at hA hW ⊢
  go_loopw [6] (fun i wr => ∃ k : Nat, k ≤ n ∧ i = .int .i64 ((M.p : Int) + k) ∧ MemAt wr g { M with p := M.p + n, d := markM M.d M.p k } ∧ Wr g w wr) (fun i _ => (M.p + n) - (intOf i).toNat)
  case atStart => exact ⟨0, Nat.zero_le _, by simp, hA, hW⟩
  case round =>
    clear hA hW
    obtain ⟨k, hk, rfl, hA, hW⟩ := hrel
    have c0 := hA.c0
    have e0 : ((M.p + n : Nat) : Int) = (M.p : Int) + n := by omega
    simp only [e0] at c0
    clear e0
    by_cases hlt : k < n
    · have hc := hA.cd (M.p + k) (by omega)
      have hf := hA.fr (4098 + (M.p + k))
      have hA2 := hA.setd (M.p + k) true
      have HA := hid (And.intro hA2 (hW.set (4098 + (M.p + k)) (.bool true)))
      have et : ((M.p : Int) + k).toNat = M.p + k := by omega
      clear hA hA2 hW
      go_wp2_with fail
      go_roundw
      case rel =>
        refine ⟨k + 1, by omega, by go_num, ?_, ?_⟩
        · have := HA.out.1
          simpa [markM, Nat.add_assoc] using this
        · have := HA.out.2
          simpa [Nat.add_assoc] using this
      case measure => simp [intOf]; omega
    · obtain rfl : k = n := by omega
      have HA := hid (And.intro hA hW)
      clear hA hW
      go_wp2_with fail
      go_ret
      exact ⟨rfl, HA.out.1, HA.out.2⟩
theorem clean_nil (w : World) : Calls Try.prog 17 #[.pointer none] w fun e w' => e = .returned (.tuple #[]) ∧ w = w' := by
  go_enter Try.func17, Try.ntmps17
  go_wp2_with fail
  exact bodyPost_end (results_none rfl _ _ _) rfl ⟨rfl, rfl⟩
theorem info29 : (Try.prog.info? 29).map (·.size) = some 16 := by kernel_rfl
theorem clean_to (g : Nat) (M : MM) (w : World) (hM : MemAt w g M) :
    Calls Try.prog 17 #[.pointer (some ⟨g, 0, none⟩)] w fun e w' => e = .returned (.tuple #[]) ∧ MemAt w' g (cleanM M) ∧ Wr g w w' := by
  have hl := memL_len hM.ok
  have ht := hM.blk.there 4098 16 (by omega)
  have hst := (hM.blk.setCells [.bool false, .bool false, .bool false, .bool false, .bool false, .bool false, .bool false, .bool false, .bool false, .bool false, .bool false, .bool false, .bool false, .bool false, .bool false, .bool false] 4098 (by rw [hl]; decide))
  have hcl := memL_clean hM.ok
  rw [show List.replicate 16 (Value.bool false) = [.bool false, .bool false, .bool false, .bool false, .bool false, .bool false, .bool false, .bool false, .bool false, .bool false, .bool false, .bool false, .bool false, .bool false, .bool false, .bool false] by rfl] at hcl
  rw [hcl] at hst
  have HS := hid (And.intro (And.intro hM.ok hst) ((Wr.refl g w).setCells [.bool false, .bool false, .bool false, .bool false, .bool false, .bool false, .bool false, .bool false, .bool false, .bool false, .bool false, .bool false, .bool false, .bool false, .bool false, .bool false] 4098))
  have HT := hid ht
  clear hM hst hcl ht hl
  go_enter Try.func17, Try.ntmps17
  go_wp2_with (with_reducible refine wpList_store_mid (op := ⟨none, .store 29 (.tmp 7) (.tmp 5), _, _, _, none⟩) rfl 29 (.tmp 7) (.tmp 5) rfl g 4098 #[.bool false, .bool false, .bool false, .bool false, .bool false, .bool false, .bool false, .bool false, .bool false, .bool false, .bool false, .bool false, .bool false, .bool false, .bool false, .bool false] ?h1 ?h2 ?h3 ?h4 ?h5 ?_)
  case h1 => rfl
  case h2 => rfl
  case h3 => exact HT.out
  case h4 => exact info29
  case h5 => simp [Value.oneCell']
  exact bodyPost_end (results_none rfl _ _ _) rfl ⟨rfl, ⟨⟨HS.out.1.1.cl, fls_len _, HS.out.1.1.wf, HS.out.1.1.pl, HS.out.1.1.ql, HS.out.1.1.zero⟩, HS.out.1.2⟩, HS.out.2⟩
end Go.Proofs.Ytcbchhnbkgaboaa
