/- package state: the reader: fail, number, signed; what any bytes read as. -/
import Derived.Test.YtnbegmlbkjjggaaSfP
import Derived.Test.YtnbegmlbkjjggaaRdw
namespace Go.Proofs.Ytnbegmlbkjjggaa
open Go.RowKit
set_option linter.unusedVariables false

noncomputable def rNum (xs : List Int) : Int × List Int := if (decU 32 xs).2.2 = 0 then ((decU 32 xs).1, xs.drop (decU 32 xs).2.1) else (0, [])
noncomputable def rSig (xs : List Int) : Int × List Int := if (decS 64 xs).2.2 = 0 then ((decS 64 xs).1, xs.drop (decS 64 xs).2.1) else (0, [])
/-- So many, one behind the other. -/
def rN {α : Type} (get : List Int → α × List Int) : Nat → List Int → List α × List Int
  | 0, xs => ([], xs)
  | n + 1, xs => ((rN get n xs).1 ++ [(get (rN get n xs).2).1], (get (rN get n xs).2).2)
noncomputable def rList {α : Type} (most : Int) (get : List Int → α × List Int) (xs : List Int) : List α × List Int := if most < (rNum xs).1 then ([], []) else rN get (rNum xs).1.toNat (rNum xs).2
noncomputable def rVal (xs : List Int) : (Int × Int) × List Int := (((rNum xs).1, (rSig (rNum xs).2).1), (rSig (rNum xs).2).2)
noncomputable def rLab (xs : List Int) : (Int × Int) × List Int := (((rNum xs).1, (rNum (rNum xs).2).1), (rNum (rNum xs).2).2)
noncomputable def rFr3 (xs : List Int) : List Int := (rNum (rNum (rNum xs).2).2).2
noncomputable def rFr (xs : List Int) : Fm × List Int :=
  (⟨(rNum xs).1, (rNum (rNum xs).2).1, (rList 32 rVal (rFr3 xs)).1, (rNum (rNum (rNum xs).2).2).1, (rList 40 rLab (rList 32 rVal (rFr3 xs)).2).1⟩, (rList 40 rLab (rList 32 rVal (rFr3 xs)).2).2)
noncomputable def rSt (xs : List Int) : St :=
  ⟨(rList 1000 rVal (rNum xs).2).1, (rList 32 rFr (rList 1000 rVal (rNum xs).2).2).1, (rNum xs).1 + -1⟩
theorem rNum_bd (xs : List Int) : 0 ≤ (rNum xs).1 ∧ (rNum xs).1 < 4294967296 := by
  have h := @decU_spec 32 xs
  have e : (2 : Int) ^ (32 : Int).toNat = 4294967296 := by decide
  unfold rNum
  split
  · exact ⟨h.1, by rw [← e]; exact h.2.1⟩
  · exact ⟨Int.le_refl _, by decide⟩
theorem rSig_bd (xs : List Int) : -9223372036854775808 ≤ (rSig xs).1 ∧ (rSig xs).1 ≤ 9223372036854775807 := by
  have h := @decS_spec 64 xs (by decide) (by decide)
  unfold rSig
  split
  · exact ⟨h.1, h.2.1⟩
  · exact ⟨by decide, by decide⟩

theorem elem_r : Try.prog.underlying 28 = some (.slice (Try.prog.elem 28)) := by kernel_rfl
theorem size_r (w : World) : (sizeOf (Try.prog.elem 28)).run Try.prog w = .ok 1 w := by kernel_rfl
theorem fail_to (K p : Nat) (w : World) (xs : List Int) (h : Rdw K p w xs) :
    Calls Try.prog 61 #[rp p] w fun e w' => e = .returned (.tuple #[]) ∧ Rdw K p w' [] ∧ w.grownBy w' (some p) := by
  obtain ⟨ao, n, cap, hc, hx⟩ := h.ex
  have hf := h.fro
  have H2 := hid (h.set (ao := none) (n := 0) (cap := 0) (ys := []) fun w' _ => Rd.empty _ _)
  clear h hx
  go_enter Try.func61, Try.ntmps61
  go_wp2_with fail
  refine bodyPost_end (results_none rfl _ _ _) rfl ?_
  exact ⟨rfl, H2.out, grown_set w ⟨p, 0, none⟩ _⟩

set_option maxRecDepth 100000 in
set_option maxHeartbeats 1000000 in
theorem rnumber_to (K p : Nat) (w : World) (xs : List Int) (h : Rdw K p w xs) :
    Calls Try.prog 50 #[rp p] w fun e w' => e = .returned (.int .i64 (rNum xs).1) ∧ Rdw K p w' (rNum xs).2 ∧ w.grownBy w' (some p) := by
  obtain ⟨ao, n, cap, hc, hx⟩ := h.ex
  have hs := @decU_spec 32 xs
  obtain ⟨⟨v, k, er⟩, hd⟩ : ∃ d, decU 32 xs = d := ⟨_, rfl⟩
  have hu := U_to ao n cap xs 32 w hx.now (by decide) (by decide) v k er hd
  rw [hd] at hs
  simp only at hs
  have hlen := hx.now.len
  have hle := h.le
  have hf := h.fro
  by_cases e0 : er = 0
  · subst e0
    have hr : rNum xs = (v, xs.drop k) := by unfold rNum; rw [hd]; simp
    rw [hr]
    have hk : k ≤ n := by rw [← hlen]; exact hs.2.2.1
    have hcut := run_cut_l (P := Try.prog) 28 elem_r size_r ao n cap (k : Int) k rfl hk
    have h2 : Bx (fun b => b < K) w fun w => Rd .u8 w (cutAt ao k cap) (n - k) (cap - k) (xs.drop k) := hx.imp fun _ h => by
      have := h.cut k n hk (Nat.le_refl _)
      rwa [List.take_of_length_le (by rw [hlen]; exact Nat.le_refl _)] at this
    obtain ⟨co, hco⟩ : ∃ co, cutAt ao k cap = co := ⟨_, rfl⟩
    obtain ⟨cn, hcn⟩ : ∃ cn, n - k = cn := ⟨_, rfl⟩
    obtain ⟨cc, hcc⟩ : ∃ cc, cap - k = cc := ⟨_, rfl⟩
    rw [hco, hcn, hcc] at h2 hcut
    have H2 := hid (h.set h2)
    have HU := hid hu
    have hb : v < 4294967296 := by
      have e : (2 : Int) ^ (32 : Int).toNat = 4294967296 := by decide
      rw [← e]; exact hs.2.1
    have hw : IntKind.i64.wrap v = v := IntWalk.i64_in _ (by have := hs.1; omega)
    have hw2 : wrap64 v = v := wrap64_id v (by have := hs.1; omega) (by omega)
    clear hco hcn hcc h2 hx h hu hr hd hs
    go_enter Try.func50, Try.ntmps50
    go_wp2_with fail
    refine HU.out.mono ?_
    rintro e w' ⟨rfl, rfl⟩
    go_wp2_with fail
    go_ret
    exact ⟨rfl, H2.out, grown_set w ⟨p, 0, none⟩ _⟩
  · have hr : rNum xs = (0, []) := by unfold rNum; rw [hd]; simp [e0]
    rw [hr]
    have hfl := fail_to K p w xs h
    have HF := hid hfl
    have HU := hid hu
    have e1 : v = 0 ∧ (er = 1 ∨ er = 2) := by
      rcases hs.2.2.2 with h | h
      · exact absurd h e0
      · exact ⟨h.2.1, h.1⟩
    clear hx h hu hr hd hs hfl
    obtain ⟨rfl, rfl | rfl⟩ := e1
    all_goals
      go_enter Try.func50, Try.ntmps50
      go_wp2_with fail
      refine HU.out.mono ?_
      rintro e w' ⟨rfl, rfl⟩
      go_wp2_with fail
      refine HF.out.mono ?_
      rintro e w1 ⟨rfl, hr1, hg1⟩
      have HR1 := hid hr1
      have HG1 := hid hg1
      clear hr1 hg1
      go_wp2_with fail
      go_ret
      exact ⟨rfl, HR1.out, HG1.out⟩

set_option maxRecDepth 100000 in
set_option maxHeartbeats 1000000 in
theorem rsigned_to (K p : Nat) (w : World) (xs : List Int) (h : Rdw K p w xs) :
    Calls Try.prog 62 #[rp p] w fun e w' => e = .returned (.int .i64 (rSig xs).1) ∧ Rdw K p w' (rSig xs).2 ∧ w.grownBy w' (some p) := by
  obtain ⟨ao, n, cap, hc, hx⟩ := h.ex
  have hs := @decS_spec 64 xs (by decide) (by decide)
  obtain ⟨⟨v, k, er⟩, hd⟩ : ∃ d, decS 64 xs = d := ⟨_, rfl⟩
  have hu := S_to ao n cap xs 64 w hx.now (by decide) (by decide) v k er hd
  rw [hd] at hs
  simp only at hs
  have hlen := hx.now.len
  have hle := h.le
  have hf := h.fro
  by_cases e0 : er = 0
  · subst e0
    have hr : rSig xs = (v, xs.drop k) := by unfold rSig; rw [hd]; simp
    rw [hr]
    have hk : k ≤ n := by rw [← hlen]; exact hs.2.2.1
    have hcut := run_cut_l (P := Try.prog) 28 elem_r size_r ao n cap (k : Int) k rfl hk
    have h2 : Bx (fun b => b < K) w fun w => Rd .u8 w (cutAt ao k cap) (n - k) (cap - k) (xs.drop k) := hx.imp fun _ h => by
      have := h.cut k n hk (Nat.le_refl _)
      rwa [List.take_of_length_le (by rw [hlen]; exact Nat.le_refl _)] at this
    obtain ⟨co, hco⟩ : ∃ co, cutAt ao k cap = co := ⟨_, rfl⟩
    obtain ⟨cn, hcn⟩ : ∃ cn, n - k = cn := ⟨_, rfl⟩
    obtain ⟨cc, hcc⟩ : ∃ cc, cap - k = cc := ⟨_, rfl⟩
    rw [hco, hcn, hcc] at h2 hcut
    have H2 := hid (h.set h2)
    have HU := hid hu
    skip
    clear hco hcn hcc h2 hx h hu hr hd hs
    go_enter Try.func62, Try.ntmps62
    go_wp2_with fail
    refine HU.out.mono ?_
    rintro e w' ⟨rfl, rfl⟩
    go_wp2_with fail
    go_ret
    exact ⟨rfl, H2.out, grown_set w ⟨p, 0, none⟩ _⟩
  · have hr : rSig xs = (0, []) := by unfold rSig; rw [hd]; simp [e0]
    rw [hr]
    have hfl := fail_to K p w xs h
    have HF := hid hfl
    have HU := hid hu
    have e1 : v = 0 ∧ (er = 1 ∨ er = 2) := by
      rcases hs.2.2.2 with h | h
      · exact absurd h e0
      · exact ⟨h.2.1, h.1⟩
    clear hx h hu hr hd hs hfl
    obtain ⟨rfl, rfl | rfl⟩ := e1
    all_goals
      go_enter Try.func62, Try.ntmps62
      go_wp2_with fail
      refine HU.out.mono ?_
      rintro e w' ⟨rfl, rfl⟩
      go_wp2_with fail
      refine HF.out.mono ?_
      rintro e w1 ⟨rfl, hr1, hg1⟩
      have HR1 := hid hr1
      have HG1 := hid hg1
      clear hr1 hg1
      go_wp2_with fail
      go_ret
      exact ⟨rfl, HR1.out, HG1.out⟩
end Go.Proofs.Ytnbegmlbkjjggaa
