/- package pack: numbers and byte strings as bytes, and a reader of them; what any bytes read as. -/
import Derived.Test.YtpfcopdckjedfaaDoorKLB
import Derived.Test.YtpfcopdckjedfaaDoorRdw
import Derived.Test.YtpfcopdckjedfaaDoorRegionTail
namespace Go.Proofs.YtpfcopdckjedfaaDoor
open Go.RowKit
set_option linter.unusedVariables false

noncomputable def rNum (xs : List Int) : Int × List Int := if (decU 32 xs).2.2 = 0 then ((decU 32 xs).1, xs.drop (decU 32 xs).2.1) else (0, [])
noncomputable def rSig (xs : List Int) : Int × List Int := if (decS 64 xs).2.2 = 0 then ((decS 64 xs).1, xs.drop (decS 64 xs).2.1) else (0, [])
/-- A byte string behind its length. -/
noncomputable def rByt (xs : List Int) : List Int × List Int := if ((rNum xs).2.length : Int) < (rNum xs).1 then ([], []) else ((rNum xs).2.take (rNum xs).1.toNat, (rNum xs).2.drop (rNum xs).1.toNat)
theorem rNum_bd (xs : List Int) : 0 ≤ (rNum xs).1 ∧ (rNum xs).1 < 4294967296 := by
  have h := @decU_spec 32 xs
  have e : (2 : Int) ^ (32 : Int).toNat = 4294967296 := by decide
  unfold rNum
  split
  · exact ⟨h.1, by rw [← e]; exact h.2.1⟩
  · exact ⟨Int.le_refl _, by decide⟩
theorem rSig_bd (xs : List Int) : -9223372036854775808 ≤ (rSig xs).1 ∧ (rSig xs).1 ≤ 9223372036854775807 := by
  have h := @decS_spec 64 xs (by decide) (by decide)
  unfold rSig
  split
  · exact ⟨h.1, h.2.1⟩
  · exact ⟨by decide, by decide⟩
def numE (n : Int) : List Int := encU 9 n
def bytE (b : List Int) : List Int := encU 9 (b.length : Int) ++ b
theorem rNum_enc (n : Int) (rest : List Int) (h0 : 0 ≤ n) (h1 : n < 4294967296) : rNum (numE n ++ rest) = (n, rest) := by
  unfold rNum numE
  rw [decU_enc n rest h0 h1]
  simp
theorem rSig_enc (n : Int) (rest : List Int) (h0 : -9223372036854775808 ≤ n) (h1 : n ≤ 9223372036854775807) : rSig (encS 9 n ++ rest) = (n, rest) := by
  unfold rSig
  rw [decS_enc 64 n rest (.inr ⟨rfl, h0, h1⟩)]
  simp
theorem rByt_enc (b rest : List Int) (hb : b.length < 4294967296) : rByt (bytE b ++ rest) = (b, rest) := by
  have h := rNum_enc (b.length : Int) (b ++ rest) (by omega) (by omega)
  unfold numE at h
  unfold rByt bytE
  rw [List.append_assoc, h]
  simp only [List.length_append]
  rw [if_neg (by omega)]
  simp

/-- Block p holds a slice that reads as xs, whose bytes lie in the blocks C. -/
structure RdC (C : Nat → Prop) (p : Nat) (w : World) (xs : List Int) : Prop where
  no : ¬ C p
  sub : ∀ b, C b → b < w.heap.size
  lt : p < w.heap.size
  fro : w.frozen? ⟨p, 0, none⟩ = false
  ex : ∃ ao n cap, w.cell? ⟨p, 0, none⟩ = some (.slice ao n cap) ∧ Bx C w fun w => Rd .u8 w ao n cap xs
section
variable {C : Nat → Prop} {p : Nat} {w w' : World} {xs : List Int}
theorem RdC.gr (h : RdC C p w xs) {r : Option Nat} (hg : w.grownBy w' r) (hr : ∀ g, r = some g → g ≠ p ∧ ¬ C g) : RdC C p w' xs := by
  obtain ⟨ao, n, cap, hc, hx⟩ := h.ex
  have hp : w'.heap[p]? = w.heap[p]? := hg.block p h.lt fun e => (hr p e.symm).1 rfl
  exact ⟨h.no, fun b hb => Nat.lt_of_lt_of_le (h.sub b hb) hg.size, Nat.lt_of_lt_of_le h.lt hg.size, (World.frozen?_of_block (a := ⟨p, 0, none⟩) hp).trans h.fro, ao, n, cap, (World.cell?_of_block (a := ⟨p, 0, none⟩) hp).trans hc, hx.keep fun b hb => hg.block b (h.sub b hb) fun e => (hr b e.symm).2 hb⟩
theorem RdC.below (h : RdC C p w xs) {B : Nat} (hb : Below B w w') (hB : w.heap.size ≤ B) : RdC C p w' xs := h.gr (gr_below hb hB none) fun _ h => by cases h
theorem RdC.alloc (h : RdC C p w xs) (o : Obj) : RdC C p (w.alloc o) xs := h.below (Bl.alloc (Bl.refl w) o) (Nat.le_refl _)
/-- The cell is written anew. -/
theorem RdC.set (h : RdC C p w xs) {ao : Option Addr} {n cap : Nat} {ys : List Int} (hx : Bx C w fun w => Rd .u8 w ao n cap ys) : RdC C p (w.setCell ⟨p, 0, none⟩ (.slice ao n cap)) ys := by
  obtain ⟨ao0, n0, cap0, hc, _⟩ := h.ex
  have hf := h.fro
  have hno := h.no
  have hl := h.lt
  refine ⟨h.no, fun b hb => by simpa using h.sub b hb, by simpa using h.lt, ?_, ao, n, cap, ?_, hx.keep fun b hb => Below.heap_setCell w _ _ b (by simp only; intro e; exact hno (e ▸ hb))⟩
  · go_simp
  · go_simp
end
theorem elem_r : Tryd.prog.underlying 30 = some (.slice (Tryd.prog.elem 30)) := by kernel_rfl
theorem size_r (w : World) : (sizeOf (Tryd.prog.elem 30)).run Tryd.prog w = .ok 1 w := by kernel_rfl

theorem pkNumber_to (n : Int) (w : World) (h0 : 0 ≤ n) (h1 : n ≤ 9223372036854775807) : Calls Tryd.prog 53 #[.int .i64 n] w fun e w' => ∃ v, e = .returned v ∧ Own 5 .u8 w.heap.size w' v (numE n) ∧ Below w.heap.size w w' := by
  go_enter Tryd.func53, Tryd.ntmps53
  go_wp2_with fail
  refine (putU_any none 0 0 [] n _ (Rd.empty _ _) (by omega) h0 (by omega)).mono ?_
  rintro e w' ⟨v, rfl, hv, hb⟩
  go_wp2_with fail
  go_ret
  exact ⟨_, rfl, by simpa [numE] using hv, hb⟩
theorem pkSigned_to (n : Int) (w : World) (h0 : -9223372036854775808 ≤ n) (h1 : n ≤ 9223372036854775807) : Calls Tryd.prog 42 #[.int .i64 n] w fun e w' => ∃ v, e = .returned v ∧ Own 5 .u8 w.heap.size w' v (encS 9 n) ∧ Below w.heap.size w w' := by
  go_enter Tryd.func42, Tryd.ntmps42
  go_wp2_with fail
  refine (putS_any none 0 0 [] n _ (Rd.empty _ _) (by omega) h0 (by omega)).mono ?_
  rintro e w' ⟨v, rfl, hv, hb⟩
  go_wp2_with fail
  go_ret
  exact ⟨_, rfl, by simpa using hv, hb⟩
theorem pkFail_to (C : Nat → Prop) (p : Nat) (w : World) (xs : List Int) (h : RdC C p w xs) :
    Calls Tryd.prog 46 #[rp p] w fun e w' => e = .returned (.tuple #[]) ∧ RdC C p w' [] ∧ w.grownBy w' (some p) := by
  obtain ⟨ao, n, cap, hc, hx⟩ := h.ex
  have hf := h.fro
  have H2 := hid (h.set (ao := none) (n := 0) (cap := 0) (ys := []) fun w' _ => Rd.empty _ _)
  clear h hx
  go_enter Tryd.func46, Tryd.ntmps46
  go_wp2_with fail
  refine bodyPost_end (results_none rfl _ _ _) rfl ?_
  exact ⟨rfl, H2.out, grown_set w ⟨p, 0, none⟩ _⟩

set_option maxRecDepth 100000 in
set_option maxHeartbeats 1000000 in
theorem pkrNumber_to (C : Nat → Prop) (p : Nat) (w : World) (xs : List Int) (h : RdC C p w xs) :
    Calls Tryd.prog 47 #[rp p] w fun e w' => e = .returned (.int .i64 (rNum xs).1) ∧ RdC C p w' (rNum xs).2 ∧ w.grownBy w' (some p) := by
  obtain ⟨ao, n, cap, hc, hx⟩ := h.ex
  have hs := @decU_spec 32 xs
  obtain ⟨⟨v, k, er⟩, hd⟩ : ∃ d, decU 32 xs = d := ⟨_, rfl⟩
  have hu := U_to ao n cap xs 32 w hx.now (by decide) (by decide) v k er hd
  rw [hd] at hs
  simp only at hs
  have hlen := hx.now.len
  have hf := h.fro
  by_cases e0 : er = 0
  · subst e0
    have hr : rNum xs = (v, xs.drop k) := by unfold rNum; rw [hd]; simp
    rw [hr]
    have hk : k ≤ n := by rw [← hlen]; exact hs.2.2.1
    have hcut := run_cut_l (P := Tryd.prog) 30 elem_r size_r ao n cap (k : Int) k rfl hk
    have h2 : Bx C w fun w => Rd .u8 w (cutAt ao k cap) (n - k) (cap - k) (xs.drop k) := hx.imp fun _ h => by
      have := h.cut k n hk (Nat.le_refl _)
      rwa [List.take_of_length_le (by rw [hlen]; exact Nat.le_refl _)] at this
    obtain ⟨co, hco⟩ : ∃ co, cutAt ao k cap = co := ⟨_, rfl⟩
    obtain ⟨cn, hcn⟩ : ∃ cn, n - k = cn := ⟨_, rfl⟩
    obtain ⟨cc, hcc⟩ : ∃ cc, cap - k = cc := ⟨_, rfl⟩
    rw [hco, hcn, hcc] at h2 hcut
    have H2 := hid (h.set h2)
    have HU := hid hu
    have hb : v < 4294967296 := by
      have e : (2 : Int) ^ (32 : Int).toNat = 4294967296 := by decide
      rw [← e]; exact hs.2.1
    have hw : IntKind.i64.wrap v = v := IntWalk.i64_in _ (by have := hs.1; omega)
    have hw2 : wrap64 v = v := wrap64_id v (by have := hs.1; omega) (by omega)
    clear hco hcn hcc h2 hx h hu hr hd hs
    go_enter Tryd.func47, Tryd.ntmps47
    go_wp2_with fail
    refine HU.out.mono ?_
    rintro e w' ⟨rfl, rfl⟩
    go_wp2_with fail
    go_ret
    exact ⟨rfl, H2.out, grown_set w ⟨p, 0, none⟩ _⟩
  · have hr : rNum xs = (0, []) := by unfold rNum; rw [hd]; simp [e0]
    rw [hr]
    have hfl := pkFail_to C p w xs h
    have HF := hid hfl
    have HU := hid hu
    have e1 : v = 0 ∧ (er = 1 ∨ er = 2) := by
      rcases hs.2.2.2 with h | h
      · exact absurd h e0
      · exact ⟨h.2.1, h.1⟩
    clear hx h hu hr hd hs hfl
    obtain ⟨rfl, rfl | rfl⟩ := e1
    all_goals
      go_enter Tryd.func47, Tryd.ntmps47
      go_wp2_with fail
      refine HU.out.mono ?_
      rintro e w' ⟨rfl, rfl⟩
      go_wp2_with fail
      refine HF.out.mono ?_
      rintro e w1 ⟨rfl, hr1, hg1⟩
      have HR1 := hid hr1
      have HG1 := hid hg1
      clear hr1 hg1
      go_wp2_with fail
      go_ret
      exact ⟨rfl, HR1.out, HG1.out⟩

set_option maxRecDepth 100000 in
set_option maxHeartbeats 1000000 in
theorem pkrSigned_to (C : Nat → Prop) (p : Nat) (w : World) (xs : List Int) (h : RdC C p w xs) :
    Calls Tryd.prog 35 #[rp p] w fun e w' => e = .returned (.int .i64 (rSig xs).1) ∧ RdC C p w' (rSig xs).2 ∧ w.grownBy w' (some p) := by
  obtain ⟨ao, n, cap, hc, hx⟩ := h.ex
  have hs := @decS_spec 64 xs (by decide) (by decide)
  obtain ⟨⟨v, k, er⟩, hd⟩ : ∃ d, decS 64 xs = d := ⟨_, rfl⟩
  have hu := S_to ao n cap xs 64 w hx.now (by decide) (by decide) v k er hd
  rw [hd] at hs
  simp only at hs
  have hlen := hx.now.len
  have hf := h.fro
  by_cases e0 : er = 0
  · subst e0
    have hr : rSig xs = (v, xs.drop k) := by unfold rSig; rw [hd]; simp
    rw [hr]
    have hk : k ≤ n := by rw [← hlen]; exact hs.2.2.1
    have hcut := run_cut_l (P := Tryd.prog) 30 elem_r size_r ao n cap (k : Int) k rfl hk
    have h2 : Bx C w fun w => Rd .u8 w (cutAt ao k cap) (n - k) (cap - k) (xs.drop k) := hx.imp fun _ h => by
      have := h.cut k n hk (Nat.le_refl _)
      rwa [List.take_of_length_le (by rw [hlen]; exact Nat.le_refl _)] at this
    obtain ⟨co, hco⟩ : ∃ co, cutAt ao k cap = co := ⟨_, rfl⟩
    obtain ⟨cn, hcn⟩ : ∃ cn, n - k = cn := ⟨_, rfl⟩
    obtain ⟨cc, hcc⟩ : ∃ cc, cap - k = cc := ⟨_, rfl⟩
    rw [hco, hcn, hcc] at h2 hcut
    have H2 := hid (h.set h2)
    have HU := hid hu
    skip
    clear hco hcn hcc h2 hx h hu hr hd hs
    go_enter Tryd.func35, Tryd.ntmps35
    go_wp2_with fail
    refine HU.out.mono ?_
    rintro e w' ⟨rfl, rfl⟩
    go_wp2_with fail
    go_ret
    exact ⟨rfl, H2.out, grown_set w ⟨p, 0, none⟩ _⟩
  · have hr : rSig xs = (0, []) := by unfold rSig; rw [hd]; simp [e0]
    rw [hr]
    have hfl := pkFail_to C p w xs h
    have HF := hid hfl
    have HU := hid hu
    have e1 : v = 0 ∧ (er = 1 ∨ er = 2) := by
      rcases hs.2.2.2 with h | h
      · exact absurd h e0
      · exact ⟨h.2.1, h.1⟩
    clear hx h hu hr hd hs hfl
    obtain ⟨rfl, rfl | rfl⟩ := e1
    all_goals
      go_enter Tryd.func35, Tryd.ntmps35
      go_wp2_with fail
      refine HU.out.mono ?_
      rintro e w' ⟨rfl, rfl⟩
      go_wp2_with fail
      refine HF.out.mono ?_
      rintro e w1 ⟨rfl, hr1, hg1⟩
      have HR1 := hid hr1
      have HG1 := hid hg1
      clear hr1 hg1
      go_wp2_with fail
      go_ret
      exact ⟨rfl, HR1.out, HG1.out⟩
theorem newReader_to (ao : Option Addr) (n cap : Nat) (xs : List Int) (w : World) (C : Nat → Prop) (hC : ∀ b, C b → b < w.heap.size) (h : Bx C w fun w => Rd .u8 w ao n cap xs) :
    Calls Tryd.prog 34 #[.slice ao n cap] w fun e w' => e = .returned (rp w.heap.size) ∧ RdC C w.heap.size w' xs ∧ Below w.heap.size w w' := by
  have H : Hid (∀ w', w' = w.alloc (.cells #[.slice ao n cap] 82) → RdC C w.heap.size w' xs ∧ Below w.heap.size w w') := hid (by
    rintro w' rfl
    have hb := Bl.alloc (Bl.refl w) (.cells #[.slice ao n cap] 82)
    have hc := Cel.new w [.slice ao n cap] 82
    exact ⟨⟨fun h => by have := hC _ h; omega, fun b hb' => Nat.lt_of_lt_of_le (hC b hb') hb.size, by simp, hc.fro 0 _ rfl, ao, n, cap, hc.cell 0 _ rfl, h.keep fun b hb' => hb.block b (hC b hb')⟩, hb⟩)
  clear hC h
  go_enter Tryd.func34, Tryd.ntmps34
  go_wp2_with fail
  go_ret
  exact ⟨rfl, H.out _ rfl⟩
theorem size_rr (w : World) : (sizeOf (Tryd.prog.elem 30)).run Tryd.prog w = .ok 1 w := by kernel_rfl
set_option maxRecDepth 100000 in
set_option maxHeartbeats 1000000 in
theorem pkrBytes_to (C : Nat → Prop) (p : Nat) (w : World) (xs : List Int) (h : RdC C p w xs) :
    Calls Tryd.prog 36 #[rp p] w fun e w' => ∃ bo bn bc, e = .returned (.slice bo bn bc) ∧ (Bx C w' fun w => Rd .u8 w bo bn bc (rByt xs).1) ∧ RdC C p w' (rByt xs).2 ∧ w.grownBy w' (some p) := by
  have hnum := pkrNumber_to C p w xs h
  have hbd := rNum_bd xs
  obtain ⟨⟨m, ys⟩, hd⟩ : ∃ d, rNum xs = d := ⟨_, rfl⟩
  have hby : rByt xs = if (ys.length : Int) < m then ([], []) else (ys.take m.toNat, ys.drop m.toNat) := by unfold rByt; rw [hd]
  rw [hd] at hnum hbd
  simp only at hnum hbd
  have HB := hid hby
  clear hby hd h
  go_enter Tryd.func36, Tryd.ntmps36
  go_wp2_with fail
  refine hnum.mono ?_
  rintro e w1 ⟨rfl, hr, hg⟩
  have HR := hid hr
  have HG := hid hg
  obtain ⟨ao, n, cap, hc, hx⟩ := hr.ex
  have hlen := hx.now.len
  have hcap := hx.now.cap63
  have hle := hx.now.le
  have hlt := hr.lt
  have hf := hr.fro
  have HX := hid hx
  by_cases hm : (n : Int) < m
  · have hby := HB.out
    rw [if_pos (by rw [hlen]; exact hm)] at hby
    have HBY := hid hby
    clear hnum hx hlen hr hg hby
    go_wp2_with fail
    refine (pkFail_to C p w1 ys HR.out).mono ?_
    rintro e w2 ⟨rfl, hr2, hg2⟩
    have HR2 := hid hr2
    have HG2 := hid (gr_trans HG.out hg2)
    clear hr2 hg2
    go_wp2_with fail
    go_ret
    rw [HBY.out]
    exact ⟨none, 0, 0, rfl, fun w' _ => Rd.empty _ _, HR2.out, HG2.out⟩
  · have hby := HB.out
    rw [if_neg (by rw [hlen]; exact hm)] at hby
    obtain ⟨k, rfl⟩ : ∃ k : Nat, m = k := ⟨m.toNat, by omega⟩
    have hk : k ≤ n := by omega
    rw [Int.toNat_natCast] at hby
    have HBY := hid hby
    have hcut := run_cut_l (P := Tryd.prog) 30 elem_r size_r ao n cap (k : Int) k rfl hk
    have hcuh := run_cut_h (P := Tryd.prog) 30 elem_r size_r ao n cap (k : Int) k rfl (by omega)
    have h2 : Bx C w1 fun w => Rd .u8 w (cutAt ao k cap) (n - k) (cap - k) (ys.drop k) := hx.imp fun _ h => by
      have := h.cut k n hk (Nat.le_refl _)
      rwa [List.take_of_length_le (by rw [hlen]; exact Nat.le_refl _)] at this
    have H3 := hid (show Bx C w1 fun w => Rd .u8 w ao k cap (ys.take k) from hx.imp fun _ h => h.upto hk)
    obtain ⟨co, hco⟩ : ∃ co, cutAt ao k cap = co := ⟨_, rfl⟩
    obtain ⟨cn, hcn⟩ : ∃ cn, n - k = cn := ⟨_, rfl⟩
    obtain ⟨cc, hcc⟩ : ∃ cc, cap - k = cc := ⟨_, rfl⟩
    rw [hco, hcn, hcc] at h2 hcut
    have H2 := hid (hr.set h2)
    have HNO := hid hr.no
    clear hnum hx hlen hr hg hby h2 hco hcn hcc
    go_wp2_with fail
    go_ret
    rw [HBY.out]
    exact ⟨ao, k, cap, rfl, H3.out.keep fun b hb => Below.heap_setCell w1 _ _ b (by simp only; intro e; exact HNO.out (e ▸ hb)), H2.out, gr_trans HG.out (grown_set w1 ⟨p, 0, none⟩ _)⟩
end Go.Proofs.YtpfcopdckjedfaaDoor
