/- package state: the reader's lists, values, labels, frames; read. Written by gen_sf.py. -/
import Derived.Test.YtnbegmlbkjjggaaSfR
namespace Go.Proofs.Ytnbegmlbkjjggaa
open Go.RowKit
set_option linter.unusedVariables false

theorem infoVa : (Try.prog.info? 39).map (fun i => (i.zero, i.size, i.bytes)) = some (some (.agg #[.int .i64 0, .int .i64 0]), 2, 16) := by kernel_rfl
theorem infoLa : (Try.prog.info? 44).map (fun i => (i.zero, i.size, i.bytes)) = some (some (.agg #[.int .i64 0, .int .i64 0]), 2, 16) := by kernel_rfl
theorem infoFr : (Try.prog.info? 42).map (fun i => (i.zero, i.size, i.bytes)) = some (some (.agg #[.int .i64 0, .int .i64 0, .slice none 0 0, .int .i64 0, .slice none 0 0]), 5, 72) := by kernel_rfl
theorem en_getVal : ∀ args w, (callFunc 52 args).run Try.prog w = .ok (.enter 52 args) w := enters_of Try.func52 (by kernel_rfl) rfl
theorem en_getLabel : ∀ args w, (callFunc 64 args).run Try.prog w = .ok (.enter 64 args) w := enters_of Try.func64 (by kernel_rfl) rfl
theorem en_getFrame : ∀ args w, (callFunc 54 args).run Try.prog w = .ok (.enter 54 args) w := enters_of Try.func54 (by kernel_rfl) rfl

/-- What a getter leaves. -/
def GotVa (K p : Nat) (w : World) (x : (Int × Int) × List Int) (e : Ending) (w' : World) : Prop :=
  ∃ cs, e = .returned (.agg cs.toArray) ∧ cs.length = 2 ∧ Bx (fun b => w.heap.size ≤ b ∧ b < w'.heap.size) w' (fun w => PaR w cs x.1) ∧ Rdw K p w' x.2 ∧ w.grownBy w' (some p)
set_option maxRecDepth 100000 in
set_option maxHeartbeats 2000000 in
theorem glVa_to (g : Nat) (get : List Int → (Int × Int) × List Int) (most : Int) (K p : Nat) (xs : List Int) (w : World) (h : Rdw K p w xs) (he : ∀ args w, (callFunc g args).run Try.prog w = .ok (.enter g args) w) (hm : 0 ≤ most ∧ most ≤ 1000)
    (HF : ∀ w ys, Rdw K p w ys → Calls Try.prog g #[rp p] w (GotVa K p w (get ys))) :
    Calls Try.prog 51 #[rp p, .int .i64 most, .func (.func g) #[] #[]] w fun e w' => ∃ v, e = .returned v ∧ OwnG 39 2 (PaR) w.heap.size w' v (rList most get xs).1 ∧ Rdw K p w' (rList most get xs).2 ∧ w.grownBy w' (some p) := by
  have hnum := rnumber_to K p w xs h
  have hpw := h.lt
  have hKp := h.le
  have hbd := rNum_bd xs
  obtain ⟨c, ys, hc⟩ : ∃ c ys, rNum xs = (c, ys) := ⟨_, _, rfl⟩
  have hrl : rList most get xs = if most < c then ([], []) else rN get c.toNat ys := by unfold rList; rw [hc]
  rw [hrl]
  rw [hc] at hnum hbd
  simp only at hnum hbd
  have HNUM := hid hnum
  have HFF := hid HF
  clear h HF hnum hc hrl
  by_cases hcm : most < c
  · rw [if_pos hcm]
    go_enter Try.func51, Try.ntmps51
    go_wp2_with fail
    refine HNUM.out.mono ?_
    rintro e w0 ⟨rfl, hr0, hg0⟩
    have HFA := hid (fail_to K p w0 ys hr0)
    have HG0 := hid hg0
    clear hr0 hg0
    go_wp2_with fail
    refine HFA.out.mono ?_
    rintro e w1 ⟨rfl, hr1, hg1⟩
    have HR1 := hid hr1
    have HG1 := hid (gr_trans HG0.out hg1)
    clear hr1 hg1
    go_wp2_with fail
    go_ret
    exact ⟨_, rfl, OwnG.nil _ _ _ _ _, HR1.out, HG1.out⟩
  · rw [if_neg hcm]
    have hcn : c ≤ 1000 := by omega
    obtain ⟨n, hn⟩ : ∃ n : Nat, c = n := ⟨c.toNat, by omega⟩
    subst hn
    rw [Int.toNat_natCast]
    have hn1000 : n ≤ 1000 := by omega
    go_enter Try.func51, Try.ntmps51
    go_wp2_with fail
    refine HNUM.out.mono ?_
    rintro e w0 ⟨rfl, hr0, hg0⟩
    have HR0 := hid hr0
    have HG0 := hid hg0
    clear hr0 hg0
    go_wp2_with fail
    go_loopw [8, 17] (fun v i wr => ∃ k : Nat, k ≤ n ∧ i = .int .i64 k ∧ OwnG 39 2 (PaR) w.heap.size wr v (rN get k ys).1 ∧ (rN get k ys).1.length = k ∧ Rdw K p wr (rN get k ys).2 ∧ w.grownBy wr (some p)) (fun _ i _ => n - (intOf i).toNat)
    case atStart => exact ⟨0, Nat.zero_le _, rfl, OwnG.nil _ _ _ _ _, rfl, HR0.out, HG0.out⟩
    case round =>
      obtain ⟨k, hkn, rfl, ho, htl, hr, hg⟩ := hrel
      have hsz := hg.size
      have HO := hid ho
      have HR := hid hr
      have HG := hid hg
      obtain ⟨vo, vc, hve, _, _, _⟩ := ho.shape
      rw [htl] at hve
      clear ho hr hg
      subst hve
      have HTL := hid htl
      by_cases hk : k < n
      · have hcall := HFF.out wr _ HR.out
        obtain ⟨x, zs, hx⟩ : ∃ x zs, get (rN get k ys).2 = (x, zs) := ⟨_, _, rfl⟩
        have hs1 : (rN get (k + 1) ys) = ((rN get k ys).1 ++ [x], zs) := by simp only [rN, hx]
        rw [hx] at hcall
        have HS1 := hid hs1
        have HCALL := hid hcall
        obtain ⟨ts, hts⟩ : ∃ ts, (rN get k ys).1 = ts := ⟨_, rfl⟩
        rw [hts] at HO HTL HS1
        clear hx hs1 hcall htl hts
        go_wp2_with fail
        refine HCALL.out.mono ?_
        rintro e w1 ⟨cs, rfl, hcl, hbx, hrd1, hg1⟩
        obtain ⟨rfl, hy1, hy2⟩ := hbx.now
        have HR1 := hid hrd1
        have HBX := hid hbx
        have HG1 := hid hg1
        have hsz1 := hg1.size
        have HO1 := hid (HO.out.kept hg1 (fun q e => by have h : p = q := (by simpa using e); omega))
        have HOLT := hid HO.out.lt
        clear hbx hrd1 hg1 hy1 hy2 HCALL HO hcl
        go_wp2_with (at_builtin; apply stopAt)
        refine hid ?_
        refine wpList_append_g rfl (.tmp 19) (.tmp 23) 22 rfl _ _ Try.underlying22 infoVa rfl (by decide) rfl (HO1.out.alloc (.cells #[.int .i64 x.1, .int .i64 x.2] 39)) (by simp; omega) w1.heap.size [.int .i64 x.1, .int .i64 x.2] rfl rfl (fun j u hu => (Cel.new w1 [.int .i64 x.1, .int .i64 x.2] 39).cell j u hu) (by simp [Value.oneCell']) x
          (HBX.out.to (fun b hb => Below.heap_alloc w1 _ b hb.2) (fun b hb => ⟨by omega, by simp; omega, fun e => by have := (HOLT.out b e).2; omega⟩)) (by rw [HTL.out]; omega) (by rw [HTL.out]; omega) ?_
        intro v2 w2 o1 o2
        have HO2 := hid o1
        have HG2 := hid (gr_row (gr_alloc (gr_trans HG.out HG1.out) (.cells #[.int .i64 x.1, .int .i64 x.2] 39)) o2 (fun q hq => (HOLT.out q hq).1))
        have HR2 := hid ((HR1.out.alloc (.cells #[.int .i64 x.1, .int .i64 x.2] 39)).gr o2 (fun q hq => by have := (HOLT.out q hq).1; omega))
        clear o1 o2 HBX HOLT HO1 HR1 HG1
        go_wp2_with fail
        go_roundw
        case rel =>
          refine ⟨k + 1, by omega, by go_num, ?_, ?_, ?_, HG2.out⟩
          · rw [HS1.out]; exact HO2.out
          · rw [HS1.out, List.length_append, HTL.out]; rfl
          · rw [HS1.out]; exact HR2.out
        case measure => simp [intOf]; omega
      · have e0 : k = n := by omega
        subst e0
        go_wp2_with fail
        exact bodyPost_ret (v := .slice vo k vc) (by simp [results, Try.results51, go_sem]) rfl ⟨_, rfl, HO.out, HR.out, HG.out⟩

/-- What a getter leaves. -/
def GotLa (K p : Nat) (w : World) (x : (Int × Int) × List Int) (e : Ending) (w' : World) : Prop :=
  ∃ cs, e = .returned (.agg cs.toArray) ∧ cs.length = 2 ∧ Bx (fun b => w.heap.size ≤ b ∧ b < w'.heap.size) w' (fun w => PaR w cs x.1) ∧ Rdw K p w' x.2 ∧ w.grownBy w' (some p)
set_option maxRecDepth 100000 in
set_option maxHeartbeats 2000000 in
theorem glLa_to (g : Nat) (get : List Int → (Int × Int) × List Int) (most : Int) (K p : Nat) (xs : List Int) (w : World) (h : Rdw K p w xs) (he : ∀ args w, (callFunc g args).run Try.prog w = .ok (.enter g args) w) (hm : 0 ≤ most ∧ most ≤ 1000)
    (HF : ∀ w ys, Rdw K p w ys → Calls Try.prog g #[rp p] w (GotLa K p w (get ys))) :
    Calls Try.prog 63 #[rp p, .int .i64 most, .func (.func g) #[] #[]] w fun e w' => ∃ v, e = .returned v ∧ OwnG 44 2 (PaR) w.heap.size w' v (rList most get xs).1 ∧ Rdw K p w' (rList most get xs).2 ∧ w.grownBy w' (some p) := by
  have hnum := rnumber_to K p w xs h
  have hpw := h.lt
  have hKp := h.le
  have hbd := rNum_bd xs
  obtain ⟨c, ys, hc⟩ : ∃ c ys, rNum xs = (c, ys) := ⟨_, _, rfl⟩
  have hrl : rList most get xs = if most < c then ([], []) else rN get c.toNat ys := by unfold rList; rw [hc]
  rw [hrl]
  rw [hc] at hnum hbd
  simp only at hnum hbd
  have HNUM := hid hnum
  have HFF := hid HF
  clear h HF hnum hc hrl
  by_cases hcm : most < c
  · rw [if_pos hcm]
    go_enter Try.func63, Try.ntmps63
    go_wp2_with fail
    refine HNUM.out.mono ?_
    rintro e w0 ⟨rfl, hr0, hg0⟩
    have HFA := hid (fail_to K p w0 ys hr0)
    have HG0 := hid hg0
    clear hr0 hg0
    go_wp2_with fail
    refine HFA.out.mono ?_
    rintro e w1 ⟨rfl, hr1, hg1⟩
    have HR1 := hid hr1
    have HG1 := hid (gr_trans HG0.out hg1)
    clear hr1 hg1
    go_wp2_with fail
    go_ret
    exact ⟨_, rfl, OwnG.nil _ _ _ _ _, HR1.out, HG1.out⟩
  · rw [if_neg hcm]
    have hcn : c ≤ 1000 := by omega
    obtain ⟨n, hn⟩ : ∃ n : Nat, c = n := ⟨c.toNat, by omega⟩
    subst hn
    rw [Int.toNat_natCast]
    have hn1000 : n ≤ 1000 := by omega
    go_enter Try.func63, Try.ntmps63
    go_wp2_with fail
    refine HNUM.out.mono ?_
    rintro e w0 ⟨rfl, hr0, hg0⟩
    have HR0 := hid hr0
    have HG0 := hid hg0
    clear hr0 hg0
    go_wp2_with fail
    go_loopw [8, 17] (fun v i wr => ∃ k : Nat, k ≤ n ∧ i = .int .i64 k ∧ OwnG 44 2 (PaR) w.heap.size wr v (rN get k ys).1 ∧ (rN get k ys).1.length = k ∧ Rdw K p wr (rN get k ys).2 ∧ w.grownBy wr (some p)) (fun _ i _ => n - (intOf i).toNat)
    case atStart => exact ⟨0, Nat.zero_le _, rfl, OwnG.nil _ _ _ _ _, rfl, HR0.out, HG0.out⟩
    case round =>
      obtain ⟨k, hkn, rfl, ho, htl, hr, hg⟩ := hrel
      have hsz := hg.size
      have HO := hid ho
      have HR := hid hr
      have HG := hid hg
      obtain ⟨vo, vc, hve, _, _, _⟩ := ho.shape
      rw [htl] at hve
      clear ho hr hg
      subst hve
      have HTL := hid htl
      by_cases hk : k < n
      · have hcall := HFF.out wr _ HR.out
        obtain ⟨x, zs, hx⟩ : ∃ x zs, get (rN get k ys).2 = (x, zs) := ⟨_, _, rfl⟩
        have hs1 : (rN get (k + 1) ys) = ((rN get k ys).1 ++ [x], zs) := by simp only [rN, hx]
        rw [hx] at hcall
        have HS1 := hid hs1
        have HCALL := hid hcall
        obtain ⟨ts, hts⟩ : ∃ ts, (rN get k ys).1 = ts := ⟨_, rfl⟩
        rw [hts] at HO HTL HS1
        clear hx hs1 hcall htl hts
        go_wp2_with fail
        refine HCALL.out.mono ?_
        rintro e w1 ⟨cs, rfl, hcl, hbx, hrd1, hg1⟩
        obtain ⟨rfl, hy1, hy2⟩ := hbx.now
        have HR1 := hid hrd1
        have HBX := hid hbx
        have HG1 := hid hg1
        have hsz1 := hg1.size
        have HO1 := hid (HO.out.kept hg1 (fun q e => by have h : p = q := (by simpa using e); omega))
        have HOLT := hid HO.out.lt
        clear hbx hrd1 hg1 hy1 hy2 HCALL HO hcl
        go_wp2_with (at_builtin; apply stopAt)
        refine hid ?_
        refine wpList_append_g rfl (.tmp 19) (.tmp 23) 40 rfl _ _ Try.underlying40 infoLa rfl (by decide) rfl (HO1.out.alloc (.cells #[.int .i64 x.1, .int .i64 x.2] 44)) (by simp; omega) w1.heap.size [.int .i64 x.1, .int .i64 x.2] rfl rfl (fun j u hu => (Cel.new w1 [.int .i64 x.1, .int .i64 x.2] 44).cell j u hu) (by simp [Value.oneCell']) x
          (HBX.out.to (fun b hb => Below.heap_alloc w1 _ b hb.2) (fun b hb => ⟨by omega, by simp; omega, fun e => by have := (HOLT.out b e).2; omega⟩)) (by rw [HTL.out]; omega) (by rw [HTL.out]; omega) ?_
        intro v2 w2 o1 o2
        have HO2 := hid o1
        have HG2 := hid (gr_row (gr_alloc (gr_trans HG.out HG1.out) (.cells #[.int .i64 x.1, .int .i64 x.2] 44)) o2 (fun q hq => (HOLT.out q hq).1))
        have HR2 := hid ((HR1.out.alloc (.cells #[.int .i64 x.1, .int .i64 x.2] 44)).gr o2 (fun q hq => by have := (HOLT.out q hq).1; omega))
        clear o1 o2 HBX HOLT HO1 HR1 HG1
        go_wp2_with fail
        go_roundw
        case rel =>
          refine ⟨k + 1, by omega, by go_num, ?_, ?_, ?_, HG2.out⟩
          · rw [HS1.out]; exact HO2.out
          · rw [HS1.out, List.length_append, HTL.out]; rfl
          · rw [HS1.out]; exact HR2.out
        case measure => simp [intOf]; omega
      · have e0 : k = n := by omega
        subst e0
        go_wp2_with fail
        exact bodyPost_ret (v := .slice vo k vc) (by simp [results, Try.results63, go_sem]) rfl ⟨_, rfl, HO.out, HR.out, HG.out⟩

/-- What a getter leaves. -/
def GotFr (K p : Nat) (w : World) (x : Fm × List Int) (e : Ending) (w' : World) : Prop :=
  ∃ cs, e = .returned (.agg cs.toArray) ∧ cs.length = 5 ∧ Bx (fun b => w.heap.size ≤ b ∧ b < w'.heap.size) w' (fun w => FrR w cs x.1) ∧ Rdw K p w' x.2 ∧ w.grownBy w' (some p)
set_option maxRecDepth 100000 in
set_option maxHeartbeats 2000000 in
theorem glFr_to (g : Nat) (get : List Int → Fm × List Int) (most : Int) (K p : Nat) (xs : List Int) (w : World) (h : Rdw K p w xs) (he : ∀ args w, (callFunc g args).run Try.prog w = .ok (.enter g args) w) (hm : 0 ≤ most ∧ most ≤ 1000)
    (HF : ∀ w ys, Rdw K p w ys → Calls Try.prog g #[rp p] w (GotFr K p w (get ys))) :
    Calls Try.prog 53 #[rp p, .int .i64 most, .func (.func g) #[] #[]] w fun e w' => ∃ v, e = .returned v ∧ OwnG 42 5 (FrR) w.heap.size w' v (rList most get xs).1 ∧ Rdw K p w' (rList most get xs).2 ∧ w.grownBy w' (some p) := by
  have hnum := rnumber_to K p w xs h
  have hpw := h.lt
  have hKp := h.le
  have hbd := rNum_bd xs
  obtain ⟨c, ys, hc⟩ : ∃ c ys, rNum xs = (c, ys) := ⟨_, _, rfl⟩
  have hrl : rList most get xs = if most < c then ([], []) else rN get c.toNat ys := by unfold rList; rw [hc]
  rw [hrl]
  rw [hc] at hnum hbd
  simp only at hnum hbd
  have HNUM := hid hnum
  have HFF := hid HF
  clear h HF hnum hc hrl
  by_cases hcm : most < c
  · rw [if_pos hcm]
    go_enter Try.func53, Try.ntmps53
    go_wp2_with fail
    refine HNUM.out.mono ?_
    rintro e w0 ⟨rfl, hr0, hg0⟩
    have HFA := hid (fail_to K p w0 ys hr0)
    have HG0 := hid hg0
    clear hr0 hg0
    go_wp2_with fail
    refine HFA.out.mono ?_
    rintro e w1 ⟨rfl, hr1, hg1⟩
    have HR1 := hid hr1
    have HG1 := hid (gr_trans HG0.out hg1)
    clear hr1 hg1
    go_wp2_with fail
    go_ret
    exact ⟨_, rfl, OwnG.nil _ _ _ _ _, HR1.out, HG1.out⟩
  · rw [if_neg hcm]
    have hcn : c ≤ 1000 := by omega
    obtain ⟨n, hn⟩ : ∃ n : Nat, c = n := ⟨c.toNat, by omega⟩
    subst hn
    rw [Int.toNat_natCast]
    have hn1000 : n ≤ 1000 := by omega
    go_enter Try.func53, Try.ntmps53
    go_wp2_with fail
    refine HNUM.out.mono ?_
    rintro e w0 ⟨rfl, hr0, hg0⟩
    have HR0 := hid hr0
    have HG0 := hid hg0
    clear hr0 hg0
    go_wp2_with fail
    go_loopw [8, 17] (fun v i wr => ∃ k : Nat, k ≤ n ∧ i = .int .i64 k ∧ OwnG 42 5 (FrR) w.heap.size wr v (rN get k ys).1 ∧ (rN get k ys).1.length = k ∧ Rdw K p wr (rN get k ys).2 ∧ w.grownBy wr (some p)) (fun _ i _ => n - (intOf i).toNat)
    case atStart => exact ⟨0, Nat.zero_le _, rfl, OwnG.nil _ _ _ _ _, rfl, HR0.out, HG0.out⟩
    case round =>
      obtain ⟨k, hkn, rfl, ho, htl, hr, hg⟩ := hrel
      have hsz := hg.size
      have HO := hid ho
      have HR := hid hr
      have HG := hid hg
      obtain ⟨vo, vc, hve, _, _, _⟩ := ho.shape
      rw [htl] at hve
      clear ho hr hg
      subst hve
      have HTL := hid htl
      by_cases hk : k < n
      · have hcall := HFF.out wr _ HR.out
        obtain ⟨x, zs, hx⟩ : ∃ x zs, get (rN get k ys).2 = (x, zs) := ⟨_, _, rfl⟩
        have hs1 : (rN get (k + 1) ys) = ((rN get k ys).1 ++ [x], zs) := by simp only [rN, hx]
        rw [hx] at hcall
        have HS1 := hid hs1
        have HCALL := hid hcall
        obtain ⟨ts, hts⟩ : ∃ ts, (rN get k ys).1 = ts := ⟨_, rfl⟩
        rw [hts] at HO HTL HS1
        clear hx hs1 hcall htl hts
        go_wp2_with fail
        refine HCALL.out.mono ?_
        rintro e w1 ⟨cs, rfl, hcl, hbx, hrd1, hg1⟩
        obtain ⟨a1, n1, k1, a2, n2, k2, rfl, hr1, hr2, hy1, hy2, hy4⟩ := hbx.now
        have HR1 := hid hrd1
        have HBX := hid hbx
        have HG1 := hid hg1
        have hsz1 := hg1.size
        have HO1 := hid (HO.out.kept hg1 (fun q e => by have h : p = q := (by simpa using e); omega))
        have HOLT := hid HO.out.lt
        clear hbx hrd1 hg1 hr1 hr2 hy1 hy2 hy4 HCALL HO hcl
        go_wp2_with (at_builtin; apply stopAt)
        refine hid ?_
        refine wpList_append_g rfl (.tmp 19) (.tmp 23) 23 rfl _ _ Try.underlying23 infoFr rfl (by decide) rfl (HO1.out.alloc (.cells #[.int .i64 x.fn, .int .i64 x.pc, .slice a1 n1 k1, .int .i64 x.base, .slice a2 n2 k2] 42)) (by simp; omega) w1.heap.size [.int .i64 x.fn, .int .i64 x.pc, .slice a1 n1 k1, .int .i64 x.base, .slice a2 n2 k2] rfl rfl (fun j u hu => (Cel.new w1 [.int .i64 x.fn, .int .i64 x.pc, .slice a1 n1 k1, .int .i64 x.base, .slice a2 n2 k2] 42).cell j u hu) (by simp [Value.oneCell']) x
          (HBX.out.to (fun b hb => Below.heap_alloc w1 _ b hb.2) (fun b hb => ⟨by omega, by simp; omega, fun e => by have := (HOLT.out b e).2; omega⟩)) (by rw [HTL.out]; omega) (by rw [HTL.out]; omega) ?_
        intro v2 w2 o1 o2
        have HO2 := hid o1
        have HG2 := hid (gr_row (gr_alloc (gr_trans HG.out HG1.out) (.cells #[.int .i64 x.fn, .int .i64 x.pc, .slice a1 n1 k1, .int .i64 x.base, .slice a2 n2 k2] 42)) o2 (fun q hq => (HOLT.out q hq).1))
        have HR2 := hid ((HR1.out.alloc (.cells #[.int .i64 x.fn, .int .i64 x.pc, .slice a1 n1 k1, .int .i64 x.base, .slice a2 n2 k2] 42)).gr o2 (fun q hq => by have := (HOLT.out q hq).1; omega))
        clear o1 o2 HBX HOLT HO1 HR1 HG1
        go_wp2_with fail
        go_roundw
        case rel =>
          refine ⟨k + 1, by omega, by go_num, ?_, ?_, ?_, HG2.out⟩
          · rw [HS1.out]; exact HO2.out
          · rw [HS1.out, List.length_append, HTL.out]; rfl
          · rw [HS1.out]; exact HR2.out
        case measure => simp [intOf]; omega
      · have e0 : k = n := by omega
        subst e0
        go_wp2_with fail
        exact bodyPost_ret (v := .slice vo k vc) (by simp [results, Try.results53, go_sem]) rfl ⟨_, rfl, HO.out, HR.out, HG.out⟩
end Go.Proofs.Ytnbegmlbkjjggaa
