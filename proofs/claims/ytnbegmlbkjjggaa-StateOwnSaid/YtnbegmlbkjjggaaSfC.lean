/- package state: Copy. -/
import Derived.Test.YtnbegmlbkjjggaaSfX
import Derived.Test.YtnbegmlbkjjggaaStX
import Derived.BigRegion
namespace Go.Proofs.Ytnbegmlbkjjggaa
open Go.RowKit
set_option linter.unusedVariables false

/-- The cells are those of the records, one by one. -/
def AtR {α : Type} (R : World → List Value → α → Prop) (w : World) (css : List (List Value)) (xs : List α) : Prop := ∀ (i : Nat) (cs : List Value) (x : α), css[i]? = some cs → xs[i]? = some x → R w cs x
/-- 'append(nil, l...)' of records: a row of the call's own with the same cells. -/
theorem append_nil_c {P : Program} {w : World} (t ty E : TypeId) {s : Nat} (bytes : Nat) (z : Value) (ht : P.underlying t = some (.slice E)) (hi : (P.info? E).map (fun i => (i.zero, i.size, i.bytes)) = some (some z, s, bytes)) (hzs : z.cells.size = s) (hs : 0 < s)
    {α : Type} {R : World → List Value → α → Prop} (hone : ∀ w cs x, R w cs x → ∀ u ∈ cs, u.oneCell' = true)
    (ao : Option Addr) (n cap : Nat) (xs : List α) (hr : RdG s R w ao n cap xs) (h63 : n ≤ 4611686018427387904) (hbytes : n * bytes ≤ 140737488355328) :
    ∃ v' w' css, (Builtin.append_ #[t, t] ty #[.slice none 0 0, .slice ao n cap]).run P w = .ok v' w' ∧ OwnC E s w.heap.size w' v' css ∧ css.length = n ∧ AtR R w css xs ∧ Below w.heap.size w w' := by
  obtain ⟨i, hi0, hz, hsz, hby⟩ := info_parts hi
  cases ao with
  | none =>
    have hc := hr.nil rfl
    have hn : n = 0 := by have := hr.le; omega
    have hy : xs = [] := List.eq_nil_of_length_eq_zero (by rw [hr.len]; exact hn)
    subst hc hn hy
    exact ⟨_, _, [], run_append_owned_none (P := P) (w := w) w.heap.size t ty E i s ht hi0 (.slice none 0 0) 0 [] (World.ownsRow_nil w _ E s), OwnC.nil _ _ _ _, rfl, fun _ _ _ h => by simp at h, Below.refl _ _⟩
  | some ad =>
    have key : ∀ i : Nat, ∃ cs : List Value, i < n → cs.length = s ∧ (∀ x, xs[i]? = some x → R w cs x) ∧ (∀ j v, cs[j]? = some v → w.cell? (ad.add (i * s + j)) = some v) ∧ ∀ u ∈ cs, u.oneCell' = true := by
      intro i
      by_cases hi : i < n
      · have hl : i < xs.length := by rw [hr.len]; exact hi
        obtain ⟨b, off, cs, e, hcl, hR, hc⟩ := hr.cell i _ (List.getElem?_eq_getElem hl)
        cases e
        refine ⟨cs, fun _ => ⟨hcl, fun x hx => ?_, fun j v hj => ?_, hone _ _ _ hR⟩⟩
        · rw [List.getElem?_eq_getElem hl] at hx
          cases hx
          exact hR
        · rw [Addr.add_lit, ← Nat.add_assoc]
          exact hc j v hj
      · exact ⟨[], fun h => absurd h hi⟩
    obtain ⟨f, hf⟩ := Classical.axiomOfChoice key
    have hwid : ∀ r ∈ (List.range n).map f, r.length = s := fun r hr => by
      obtain ⟨i, hi, rfl⟩ := List.mem_map.1 hr
      exact (hf i (by simpa using hi)).1
    have hln : ((List.range n).map f).length = n := by simp
    have hfl : ((List.range n).map f).flatten.length = n * s := by rw [flat_len' s _ hwid, hln]
    obtain ⟨v', w', hrun, h1, h2, _⟩ := run_append_own (P := P) w w.heap.size t ty E i z s bytes ht hi0 hz hsz hby hzs hs (.slice none 0 0) 0 [] (World.ownsRow_nil w _ E s) ad n cap ((List.range n).map f).flatten hfl
      (fun j u hu => by
        have hj : j < n * s := by have := (List.getElem?_eq_some_iff.1 hu).1; omega
        have hi : j / s < n := (Nat.div_lt_iff_lt_mul hs).2 hj
        have hm : j % s < s := Nat.mod_lt _ hs
        have e : j / s * s + j % s = j := by rw [Nat.mul_comm]; exact Nat.div_add_mod j s
        have hg := flat_get s ((List.range n).map f) (j / s) (j % s) hwid (by rw [hln]; exact hi) hm
        rw [e, hu] at hg
        have hgd : ((List.range n).map f).getD (j / s) [] = f (j / s) := by simp [List.getD, hi]
        rw [hgd] at hg
        have := (hf (j / s) hi).2.2.1 (j % s) u hg.symm
        rwa [e] at this)
      (fun u hu => by
        obtain ⟨r, hr, hur⟩ := List.mem_flatten.1 hu
        obtain ⟨i, hi, rfl⟩ := List.mem_map.1 hr
        exact (hf i (by simpa using hi)).2.2.2 u hur)
      (by unfold maxLen; omega) (by simpa using hbytes) (Nat.le_refl _)
    refine ⟨v', w', (List.range n).map f, hrun, ⟨by simpa [hln] using h1, hwid⟩, hln, fun i cs x hcs hx => ?_, (Below.refl _ _).grown h2 (Nat.le_refl _) (fun _ h => by cases h)⟩
    have hi : i < n := by have := (List.getElem?_eq_some_iff.1 hcs).1; omega
    have : cs = f i := by simp [hi] at hcs; exact hcs.symm
    rw [this]
    exact (hf i hi).2.1 x hx
theorem one_pa (w : World) (cs : List Value) (x : Int × Int) (h : PaR w cs x) : ∀ u ∈ cs, u.oneCell' = true := by
  obtain ⟨rfl, _⟩ := h
  simp [Value.oneCell']
theorem one_fr (w : World) (cs : List Value) (x : Fm) (h : FrR w cs x) : ∀ u ∈ cs, u.oneCell' = true := by
  obtain ⟨a1, n1, k1, a2, n2, k2, rfl, _⟩ := h
  simp [Value.oneCell']

set_option maxRecDepth 100000 in
theorem copiedVal_to (ao : Option Addr) (n cap : Nat) (xs : List (Int × Int)) (w : World) (h : RdG 2 PaR w ao n cap xs) (hn : n ≤ 1000000) :
    Calls Try.prog 35 #[.slice ao n cap] w fun e w' => ∃ v css, e = .returned v ∧ OwnC 39 2 w.heap.size w' v css ∧ css.length = n ∧ AtR PaR w css xs ∧ Below w.heap.size w w' := by
  have key : ∀ ty, ∃ v' w' css, (Builtin.append_ #[22, 22] ty #[.slice none 0 0, .slice ao n cap]).run Try.prog w = .ok v' w' ∧ OwnC 39 2 w.heap.size w' v' css ∧ css.length = n ∧ AtR PaR w css xs ∧ Below w.heap.size w w' := fun ty =>
    append_nil_c (P := Try.prog) 22 ty 39 _ _ Try.underlying22 infoVa rfl (by decide) one_pa ao n cap xs h (by omega) (by omega)
  have HK := hid key
  clear key h
  go_enter Try.func35, Try.ntmps35
  go_wp2_with (at_builtin; apply stopAt)
  refine hid ?_
  obtain ⟨v', w', css, hrun, h1, h2, h3, h4⟩ := HK.out _
  refine Lib.wpList_append_run _ rfl _ _ _ _ rfl _ _ rfl rfl _ _ hrun ?_
  have H1 := hid h1
  have H3 := hid h3
  have H4 := hid h4
  clear h1 h3 h4 hrun HK
  go_wp2_with fail
  go_ret
  exact ⟨_, css, rfl, H1.out, h2, H3.out, H4.out⟩

set_option maxRecDepth 100000 in
theorem copiedLab_to (ao : Option Addr) (n cap : Nat) (xs : List (Int × Int)) (w : World) (h : RdG 2 PaR w ao n cap xs) (hn : n ≤ 1000000) :
    Calls Try.prog 37 #[.slice ao n cap] w fun e w' => ∃ v css, e = .returned v ∧ OwnC 44 2 w.heap.size w' v css ∧ css.length = n ∧ AtR PaR w css xs ∧ Below w.heap.size w w' := by
  have key : ∀ ty, ∃ v' w' css, (Builtin.append_ #[40, 40] ty #[.slice none 0 0, .slice ao n cap]).run Try.prog w = .ok v' w' ∧ OwnC 44 2 w.heap.size w' v' css ∧ css.length = n ∧ AtR PaR w css xs ∧ Below w.heap.size w w' := fun ty =>
    append_nil_c (P := Try.prog) 40 ty 44 _ _ Try.underlying40 infoLa rfl (by decide) one_pa ao n cap xs h (by omega) (by omega)
  have HK := hid key
  clear key h
  go_enter Try.func37, Try.ntmps37
  go_wp2_with (at_builtin; apply stopAt)
  refine hid ?_
  obtain ⟨v', w', css, hrun, h1, h2, h3, h4⟩ := HK.out _
  refine Lib.wpList_append_run _ rfl _ _ _ _ rfl _ _ rfl rfl _ _ hrun ?_
  have H1 := hid h1
  have H3 := hid h3
  have H4 := hid h4
  clear h1 h3 h4 hrun HK
  go_wp2_with fail
  go_ret
  exact ⟨_, css, rfl, H1.out, h2, H3.out, H4.out⟩

set_option maxRecDepth 100000 in
theorem copiedFrs_to {R : World → List Value → Fm → Prop} (hone : ∀ w cs x, R w cs x → ∀ u ∈ cs, u.oneCell' = true) (ao : Option Addr) (n cap : Nat) (xs : List Fm) (w : World) (h : RdG 5 R w ao n cap xs) (hn : n ≤ 1000000) :
    Calls Try.prog 36 #[.slice ao n cap] w fun e w' => ∃ v css, e = .returned v ∧ OwnC 42 5 w.heap.size w' v css ∧ css.length = n ∧ AtR R w css xs ∧ Below w.heap.size w w' := by
  have key : ∀ ty, ∃ v' w' css, (Builtin.append_ #[23, 23] ty #[.slice none 0 0, .slice ao n cap]).run Try.prog w = .ok v' w' ∧ OwnC 42 5 w.heap.size w' v' css ∧ css.length = n ∧ AtR R w css xs ∧ Below w.heap.size w w' := fun ty =>
    append_nil_c (P := Try.prog) 23 ty 42 _ _ Try.underlying23 infoFr rfl (by decide) hone ao n cap xs h (by omega) (by omega)
  have HK := hid key
  clear key h
  go_enter Try.func36, Try.ntmps36
  go_wp2_with (at_builtin; apply stopAt)
  refine hid ?_
  obtain ⟨v', w', css, hrun, h1, h2, h3, h4⟩ := HK.out _
  refine Lib.wpList_append_run _ rfl _ _ _ _ rfl _ _ rfl rfl _ _ hrun ?_
  have H1 := hid h1
  have H3 := hid h3
  have H4 := hid h4
  clear h1 h3 h4 hrun HK
  go_wp2_with fail
  go_ret
  exact ⟨_, css, rfl, H1.out, h2, H3.out, H4.out⟩

theorem copyVal_to (ao : Option Addr) (n cap : Nat) (xs : List (Int × Int)) (w : World) (h : RdG 2 PaR w ao n cap xs) (hn : n ≤ 1000000) :
    Calls Try.prog 35 #[.slice ao n cap] w fun e w' => ∃ v, e = .returned v ∧ OwnG 39 2 PaR w.heap.size w' v xs ∧ Below w.heap.size w w' := by
  refine (copiedVal_to ao n cap xs w h hn).mono ?_
  rintro e w' ⟨v, css, rfl, h1, h2, h3, h4⟩
  exact ⟨v, rfl, ⟨css, by rw [h2, h.len], h1, fun i cs x a b => Bx.pure (h3 i cs x a b)⟩, h4⟩

theorem copyLab_to (ao : Option Addr) (n cap : Nat) (xs : List (Int × Int)) (w : World) (h : RdG 2 PaR w ao n cap xs) (hn : n ≤ 1000000) :
    Calls Try.prog 37 #[.slice ao n cap] w fun e w' => ∃ v, e = .returned v ∧ OwnG 44 2 PaR w.heap.size w' v xs ∧ Below w.heap.size w w' := by
  refine (copiedLab_to ao n cap xs w h hn).mono ?_
  rintro e w' ⟨v, css, rfl, h1, h2, h3, h4⟩
  exact ⟨v, rfl, ⟨css, by rw [h2, h.len], h1, fun i cs x a b => Bx.pure (h3 i cs x a b)⟩, h4⟩

/-- What a copied row of pairs is: read, and may be written. -/
theorem OwnG.pu {E : TypeId} {B : Nat} {w : World} {v : Value} {xs : List (Int × Int)} (h : OwnG E 2 PaR B w v xs) : ∃ ao cap, v = .slice ao xs.length cap ∧ Bx (fun b => B ≤ b ∧ b < w.heap.size) w fun w => RdG 2 PaR w ao xs.length cap xs ∧ Unf w ao (xs.length * 2) := by
  obtain ⟨ao, cap, e, hb⟩ := h.bx
  refine ⟨ao, cap, e, fun w' h' => ⟨hb w' h', fun b off e0 i hi => ?_⟩⟩
  obtain ⟨css, hl, hc, _⟩ := h.row
  subst e e0
  obtain ⟨ao2, cap2, e2, _, _, h3⟩ := hc.shape
  simp only [Value.slice.injEq] at e2
  obtain ⟨e2, _, _⟩ := e2
  obtain ⟨g, e4⟩ := h3 (by rw [hl]; omega)
  rw [e4] at e2
  cases e2
  have hi2 : i / 2 < css.length := by rw [hl]; omega
  have hm : i % 2 < 2 := Nat.mod_lt _ (by decide)
  have hmem : css.getD (i / 2) [] ∈ css := by
    simp only [List.getD, List.getElem?_eq_getElem hi2, Option.getD_some]
    exact List.getElem_mem hi2
  have hw := hc.wid _ hmem
  have hcell := hc.cell (i / 2) (i % 2) hi2 (List.getElem?_eq_getElem (by rw [hw]; exact hm))
  have e5 : i / 2 * 2 + i % 2 = i := by omega
  rw [e5] at hcell
  rw [Nat.zero_add]
  exact (World.frozen?_of_block (a := ⟨b, i, none⟩) (h' b ⟨hcell.2.2.2, hcell.2.2.1⟩)).trans hcell.2.1
/-- The rows of frames, the first k of which are done. -/
structure CpJ (w W0 : World) (B n : Nat) (v : Value) (fs : List Fm) (k : Nat) (wr : World) : Prop where
  ex : ∃ css, OwnC 42 5 B wr v css ∧ css.length = n ∧ ∀ (i : Nat) (cs : List Value) (f : Fm), css[i]? = some cs → fs[i]? = some f →
    (i < k → Bx (fun b => B ≤ b ∧ b < wr.heap.size ∧ v.ownBlock ≠ some b) wr fun w => FrU w cs f) ∧ (k ≤ i → FrR w cs f)
  gr : W0.grownBy wr v.ownBlock
theorem CpJ.at {w W0 : World} {B n g cap : Nat} {fs : List Fm} {k : Nat} {wr : World} (h : CpJ w W0 B n (.slice (some ⟨g, 0, none⟩) n cap) fs k wr) (hn : fs.length = n) (hk : k < n) :
    ∃ f a1 n1 k1 a2 n2 k2, fs[k]? = some f ∧ RdG 2 PaR w a1 n1 k1 f.ls ∧ RdG 2 PaR w a2 n2 k2 f.lb ∧ (Lit.int .i64 f.fn).wf = true ∧ (Lit.int .i64 f.pc).wf = true ∧ (Lit.int .i64 f.base).wf = true ∧ B ≤ g ∧ g < wr.heap.size ∧
      ∀ j u, [Value.int .i64 f.fn, .int .i64 f.pc, .slice a1 n1 k1, .int .i64 f.base, .slice a2 n2 k2][j]? = some u → wr.cell? ⟨g, k * 5 + j, none⟩ = some u ∧ wr.frozen? ⟨g, k * 5 + j, none⟩ = false := by
  obtain ⟨css, hc, hl, hx⟩ := h.ex
  have hk1 : k < css.length := by omega
  have hk2 : k < fs.length := by omega
  obtain ⟨a1, n1, k1, a2, n2, k2, e, r1, r2, w1, w2, w3⟩ := (hx k css[k] fs[k] (List.getElem?_eq_getElem hk1) (List.getElem?_eq_getElem hk2)).2 (Nat.le_refl _)
  have hgd : css.getD k [] = css[k] := by simp [List.getD, hk1]
  have hcell : ∀ j u, [Value.int .i64 fs[k].fn, .int .i64 fs[k].pc, .slice a1 n1 k1, .int .i64 fs[k].base, .slice a2 n2 k2][j]? = some u → _ := fun j u hj => hc.cell k j hk1 (u := u) (by rw [hgd, e]; exact hj)
  have h0 := hcell 0 _ rfl
  exact ⟨fs[k], a1, n1, k1, a2, n2, k2, List.getElem?_eq_getElem hk2, r1, r2, w1, w2, w3, h0.2.2.2, h0.2.2.1, fun j u hj => ⟨(hcell j u hj).1, (hcell j u hj).2.1⟩⟩
/-- A round: what the two stores leave. wr: ahead of it; w2, w4: behind the two copies. -/
theorem CpJ.step {w W0 : World} {B n g cap : Nat} {fs : List Fm} {k : Nat} {wr w1 w2 w4 : World} (h : CpJ w W0 B n (.slice (some ⟨g, 0, none⟩) n cap) fs k wr) (hB : B ≤ W0.heap.size) (hn : fs.length = n) (hk : k < n) {f : Fm} (hf : fs[k]? = some f) {E1 E2 : TypeId}
    {o1 o2 : Option Addr} {n1 n2 c1 c2 : Nat}
    (hb1 : Below wr.heap.size wr w1) (hb2 : Below w1.heap.size w1 w2) (hu1 : OwnG E1 2 PaR w1.heap.size w2 (.slice o1 n1 c1) f.ls)
    (hb4 : Below (w2.setCell ⟨g, k * 5 + 2, none⟩ (.slice o1 n1 c1)).heap.size (w2.setCell ⟨g, k * 5 + 2, none⟩ (.slice o1 n1 c1)) w4) (hu2 : OwnG E2 2 PaR (w2.setCell ⟨g, k * 5 + 2, none⟩ (.slice o1 n1 c1)).heap.size w4 (.slice o2 n2 c2) f.lb) :
    CpJ w W0 B n (.slice (some ⟨g, 0, none⟩) n cap) fs (k + 1) (w4.setCell ⟨g, k * 5 + 4, none⟩ (.slice o2 n2 c2)) := by
  obtain ⟨css, hc, hl, hx⟩ := h.ex
  have hk1 : k < css.length := by omega
  have hgl := hc.lt g rfl
  have hgd : css.getD k [] = css[k] := by simp [List.getD, hk1]
  have hwk := hc.wid css[k] (List.getElem_mem hk1)
  have hs1 := hb1.size
  have hs2 := hb2.size
  have hs4 := hb4.size
  rw [show ∀ (w : World) (a : Addr) (u : Value), (w.setCell a u).heap.size = w.heap.size from fun w a u => by simp] at hs4
  have hR := (hx k css[k] f (List.getElem?_eq_getElem hk1) hf).2 (Nat.le_refl _)
  obtain ⟨b1, m1', l1, b2, m2', l2, e, r1, r2, w1', w2', w3'⟩ := hR
  -- blocks
  have hgA : wr.grownBy w2 none := gr_trans (gr_below hb1 (Nat.le_refl _) none) (gr_below hb2 (Nat.le_refl _) none)
  have hgB : wr.grownBy (w2.setCell ⟨g, k * 5 + 2, none⟩ (.slice o1 n1 c1)) (some g) := gr_trans (gr_row (gr_refl wr (some g)) hgA fun _ h => by cases h) (grown_set w2 ⟨g, k * 5 + 2, none⟩ _)
  have hgC : wr.grownBy w4 (some g) := gr_trans hgB (gr_below hb4 (Nat.le_refl _) (some g))
  have hgD : wr.grownBy (w4.setCell ⟨g, k * 5 + 4, none⟩ (.slice o2 n2 c2)) (some g) := gr_trans hgC (grown_set w4 ⟨g, k * 5 + 4, none⟩ _)
  have hc2 := (hc.grown hgA (fun _ _ h => by cases h)).set k 2 (.slice o1 n1 c1) hk1 (by decide)
  have hc4 := hc2.below hb4 (Nat.le_refl _)
  have hc5 := hc4.set k 4 (.slice o2 n2 c2) (by simpa using hk1) (by decide)
  have p1 := hu1.bxs (Nat.le_refl _)
  obtain ⟨o1', c1', e1', pu1⟩ := hu1.pu
  obtain ⟨o2', c2', e2', pu2⟩ := hu2.pu
  cases e1'
  cases e2'
  rw [show ∀ (w : World) (a : Addr) (u : Value), (w.setCell a u).heap.size = w.heap.size from fun w a u => by simp] at pu2
  have hcss : ((css.set k ((css.getD k []).set 2 (.slice o1 f.ls.length c1))).set k (((css.set k ((css.getD k []).set 2 (.slice o1 f.ls.length c1))).getD k []).set 4 (.slice o2 f.lb.length c2))) = css.set k [.int .i64 f.fn, .int .i64 f.pc, .slice o1 f.ls.length c1, .int .i64 f.base, .slice o2 f.lb.length c2] := by
    have : (css.set k ((css.getD k []).set 2 (.slice o1 f.ls.length c1))).getD k [] = (css.getD k []).set 2 (.slice o1 f.ls.length c1) := by simp [List.getD, hk1]
    rw [this, List.set_set, hgd, e]
    rfl
  rw [hcss] at hc5
  refine ⟨⟨_, hc5, by simpa using hl, fun i cs f' hi hf' => ⟨fun hik => ?_, fun hki => ?_⟩⟩, gr_trans h.gr hgD⟩
  · by_cases hik' : i = k
    · subst hik'
      rw [hf] at hf'
      cases hf'
      rw [List.getElem?_set_self hk1] at hi
      cases hi
      have q1 : Bx (fun b => B ≤ b ∧ b < (w4.setCell ⟨g, i * 5 + 4, none⟩ (.slice o2 f.lb.length c2)).heap.size ∧ (Value.slice (some ⟨g, 0, none⟩) n cap).ownBlock ≠ some b) (w4.setCell ⟨g, i * 5 + 4, none⟩ (.slice o2 f.lb.length c2)) fun w => RdG 2 PaR w o1 f.ls.length c1 f.ls ∧ Unf w o1 (f.ls.length * 2) :=
        pu1.to (fun b hb => (Below.heap_setCell _ _ _ b (by simp only; omega)).trans ((hb4.block b (by simp; omega)).trans (Below.heap_setCell _ _ _ b (by simp only; omega)))) fun b hb => ⟨by omega, by simp; omega, fun e => by simp [Value.ownBlock] at e; omega⟩
      have q2 : Bx (fun b => B ≤ b ∧ b < (w4.setCell ⟨g, i * 5 + 4, none⟩ (.slice o2 f.lb.length c2)).heap.size ∧ (Value.slice (some ⟨g, 0, none⟩) n cap).ownBlock ≠ some b) (w4.setCell ⟨g, i * 5 + 4, none⟩ (.slice o2 f.lb.length c2)) fun w => RdG 2 PaR w o2 f.lb.length c2 f.lb ∧ Unf w o2 (f.lb.length * 2) :=
        pu2.to (fun b hb => Below.heap_setCell _ _ _ b (by simp only; omega)) fun b hb => ⟨by omega, by simp; omega, fun e => by simp [Value.ownBlock] at e; omega⟩
      exact fun w' h' => ⟨_, _, _, _, _, _, rfl, (q1 w' h').1, (q2 w' h').1, (q1 w' h').2, (q2 w' h').2, w1', w2', w3'⟩
    · rw [List.getElem?_set_ne (fun h => hik' h.symm)] at hi
      have hb := (hx i cs f' hi hf').1 (by omega)
      refine hb.to (fun b hb => hgD.block b hb.2.1 (fun e => hb.2.2 (by rw [e]; rfl))) fun b hb => ⟨hb.1, Nat.lt_of_lt_of_le hb.2.1 hgD.size, hb.2.2⟩
  · rw [List.getElem?_set_ne (by omega)] at hi
    exact (hx i cs f' hi hf').2 (by omega)
/-! copy -/
theorem CpJ.below {w W0 : World} {B n : Nat} {v : Value} {fs : List Fm} {k : Nat} {wr wq : World} (h : CpJ w W0 B n v fs k wr) (hb : Below wr.heap.size wr wq) : CpJ w W0 B n v fs k wq := by
  obtain ⟨css, hc, hl, hx⟩ := h.ex
  exact ⟨⟨css, hc.below hb (Nat.le_refl _), hl, fun i cs f h1 h2 => ⟨fun hi => ((hx i cs f h1 h2).1 hi).to (fun b hb' => hb.block b hb'.2.1) fun b hb' => ⟨hb'.1, Nat.lt_of_lt_of_le hb'.2.1 hb.size, hb'.2.2⟩, (hx i cs f h1 h2).2⟩⟩, gr_trans h.gr (gr_below hb (Nat.le_refl _) _)⟩
/-- What Copy leaves. -/
def CpO (S : St) (w : World) (e : Ending) (w' : World) : Prop := ∃ V', e = .returned (.agg (SV.cells V' S).toArray) ∧ Bx (fun b => w.heap.size ≤ b ∧ b < w'.heap.size) w' (StU V' S) ∧ Below w.heap.size w w'
set_option maxRecDepth 100000 in
set_option maxHeartbeats 4000000 in
theorem copyState_to (V : SV) (S : St) (w : World) (ht : tameS S) (h : StR V S w) : Calls Try.prog 18 #[.agg (V.cells S).toArray] w (CpO S w) := by
  obtain ⟨vo, vn, vc, fo, n, fc⟩ := V
  obtain ⟨vs, fs, asks⟩ := S
  have hv := h.v
  have hf := h.f
  have hwa := h.a
  simp only at hv hf hwa
  have hvn := hv.len
  have hfn := hf.len
  obtain ⟨ht1, ht2, ht3⟩ := ht
  simp only at ht1 ht2 ht3
  obtain ⟨p, hp⟩ : ∃ p, w.heap.size = p := ⟨_, rfl⟩
  obtain ⟨w0, hw0⟩ : ∃ w0, ((w.alloc (.cells #[.slice vo vn vc, .slice fo n fc, .int .i64 asks] 25)).alloc (.cells #[.slice none 0 0, .slice none 0 0, .int .i64 0] 25)) = w0 := ⟨_, rfl⟩
  have hb0 : Below p w w0 := by rw [← hw0, ← hp]; exact Bl.alloc (Bl.alloc (Bl.refl w) _) _
  have hz0 : w0.heap.size = p + 1 + 1 := by rw [← hw0, ← hp]; simp
  have hcp0 : Cel w0 p [.slice vo vn vc, .slice fo n fc, .int .i64 asks] := by rw [← hw0, ← hp]; exact (Cel.new w _ _).below (Nat.succ_pos _) (Bl.alloc (Bl.refl _) _)
  have hca0 : Cel w0 (p + 1) [.slice none 0 0, .slice none 0 0, .int .i64 0] := by
    have := Cel.new (w.alloc (.cells #[.slice vo vn vc, .slice fo n fc, .int .i64 asks] 25)) [.slice none 0 0, .slice none 0 0, .int .i64 0] 25
    rw [hw0] at this
    rw [← hp]
    simpa using this
  have hcall1 := copyVal_to vo vn vc vs w0 (hv.below2 (by rw [hp]; exact hb0)) (by omega)
  have HC1 := hid hcall1
  have HW0 := hid hw0
  have HB0 := hid hb0
  have HZ0 := hid hz0
  have HCP0 := hid hcp0
  have HCA0 := hid hca0
  have HF := hid hf
  have HFN := hid hfn
  have HVN := hid hvn
  have HT3 := hid ht3
  have HWA := hid hwa
  have c0 := hcp0.cell 0 _ rfl
  have c1 := hcp0.cell 1 _ rfl
  have d0 := hcp0.fro 0 _ rfl
  clear hcall1 hw0 hb0 hcp0 hca0 hf hv h ht3 hwa hz0
  show Calls Try.prog 18 #[.agg #[.slice vo vn vc, .slice fo n fc, .int .i64 asks]] w (CpO ⟨vs, fs, asks⟩ w)
  go_enter Try.func18, Try.ntmps18
  go_wp2_with fail
  rw [HW0.out]
  go_wp2_with fail
  refine HC1.out.mono ?_
  rintro e w1 ⟨v1, rfl, hu1, hb1⟩
  obtain ⟨o1, cap1, rfl, hpu1⟩ := hu1.pu
  rw [HVN.out] at hpu1 ⊢
  have hz1 := hb1.size
  rw [HZ0.out] at hz1
  have hps : p < w0.heap.size := by rw [HZ0.out]; omega
  replace c0 := (hb1.cell (p := ⟨p, 0, none⟩) hps).trans c0
  replace c1 := (hb1.cell (p := ⟨p, 1, none⟩) hps).trans c1
  replace d0 := (hb1.frozen (p := ⟨p, 0, none⟩) hps).trans d0
  -- behind the first store
  obtain ⟨w2, hw2⟩ : ∃ w2, w1.setCell ⟨p, 0, none⟩ (.slice o1 vn cap1) = w2 := ⟨_, rfl⟩
  have hz2 : w2.heap.size = w1.heap.size := by rw [← hw2]; simp
  have hb2 : Below p w w2 := by rw [← hw2]; exact (HB0.out.trans (hb1.mono (by rw [HZ0.out]; omega))).setCell (p := ⟨p, 0, none⟩) (Nat.le_refl _) _
  have hcp2 : Cel w2 p [.slice o1 vn cap1, .slice fo n fc, .int .i64 asks] := by rw [← hw2]; exact (HCP0.out.below (Nat.succ_pos _) hb1).set 0 _ (by simp)
  have hca2 : Cel w2 (p + 1) [.slice none 0 0, .slice none 0 0, .int .i64 0] := by rw [← hw2]; exact (HCA0.out.below (Nat.succ_pos _) hb1).other (by omega) _ _
  have hpu2 : Bx (fun b => p + 1 + 1 ≤ b ∧ b < w2.heap.size) w2 fun w => RdG 2 PaR w o1 vn cap1 vs ∧ Unf w o1 (vn * 2) := by
    rw [← hw2]
    exact hpu1.to (fun b hb => Below.heap_setCell _ _ _ b (by rw [HZ0.out] at hb; simp only; omega)) fun b hb => ⟨by rw [← HZ0.out]; exact hb.1, by simpa using hb.2⟩
  have hf2 : RdG 5 (fun _ cs f => FrR w cs f) w2 fo n fc fs := ⟨HF.out.len, HF.out.le, HF.out.max, HF.out.nil, fun i x hi => by
    obtain ⟨b, off, cs, e, hl, hR, hc⟩ := HF.out.cell i x hi
    exact ⟨b, off, cs, e, hl, hR, fun j v hj => (hb2.cell (p := ⟨b, off + i * 5 + j, none⟩) (by rw [← hp]; exact World.block_lt_of_cell? w _ (hc j v hj))).trans (hc j v hj)⟩⟩
  have hcall2 := copiedFrs_to (R := fun _ cs f => FrR w cs f) (fun _ cs x h => one_fr w cs x h) fo n fc fs w2 hf2 (by rw [← HFN.out]; exact ht2)
  have HC2 := hid hcall2
  have HW2 := hid hw2
  have HB2 := hid hb2
  have HCP2 := hid hcp2
  have HCA2 := hid hca2
  have HPU2 := hid hpu2
  have HZ2 : Hid (p + 1 + 1 ≤ w2.heap.size) := hid (by rw [hz2]; exact hz1)
  clear hcall2 hw2 hb2 hcp2 hca2 hpu2 hf2 hz2 hpu1 hu1 hb1 HC1 HB0 HCP0 HCA0
  go_wp2_with fail
  rw [HW2.out]
  clear c0 c1 d0
  have c1 := HCP2.out.cell 1 _ rfl
  have d1 := HCP2.out.fro 1 _ rfl
  refine HC2.out.mono ?_
  rintro e w3 ⟨v2, css, rfl, hoc, hcl, hat, hb3⟩
  obtain ⟨ao2, cap, rfl, hs1, hs2, hsg⟩ := hoc.shape
  rw [hcl] at hs1 hsg hoc ⊢
  have hp2 : p < w2.heap.size := by have := HZ2.out; omega
  replace c1 := (hb3.cell (p := ⟨p, 1, none⟩) hp2).trans c1
  replace d1 := (hb3.frozen (p := ⟨p, 1, none⟩) hp2).trans d1
  obtain ⟨w4, hw4⟩ : ∃ w4, w3.setCell ⟨p, 1, none⟩ (.slice ao2 n cap) = w4 := ⟨_, rfl⟩
  have hz4 : w4.heap.size = w3.heap.size := by rw [← hw4]; simp
  have hz3 := hb3.size
  have hb4 : Below p w w4 := by rw [← hw4]; exact (HB2.out.trans (hb3.mono (by omega))).setCell (p := ⟨p, 1, none⟩) (Nat.le_refl _) _
  have hcp4 : Cel w4 p [.slice o1 vn cap1, .slice ao2 n cap, .int .i64 asks] := by rw [← hw4]; exact (HCP2.out.below (Nat.succ_pos _) hb3).set 1 _ (by simp)
  have hca4 : Cel w4 (p + 1) [.slice none 0 0, .slice none 0 0, .int .i64 0] := by rw [← hw4]; exact (HCA2.out.below (Nat.succ_pos _) hb3).other (by omega) _ _
  have hpu4 : Bx (fun b => p + 1 + 1 ≤ b ∧ b < w2.heap.size) w4 fun w => RdG 2 PaR w o1 vn cap1 vs ∧ Unf w o1 (vn * 2) := by
    rw [← hw4]
    exact HPU2.out.keep fun b hb => (Below.heap_setCell _ _ _ b (by simp only; omega)).trans (hb3.block b hb.2)
  have hj0 : CpJ w w4 w2.heap.size n (.slice ao2 n cap) fs 0 w4 := by
    refine ⟨⟨css, ?_, hcl, fun i cs f h1 h2 => ⟨fun hi => absurd hi (Nat.not_lt_zero _), fun _ => hat i cs f h1 h2⟩⟩, gr_refl _ _⟩
    rw [← hw4]
    exact hoc.aside (fun b hb => by have := (hoc.lt b hb).1; simp only; omega) _
  have HW4 := hid hw4
  have HB4 := hid hb4
  have HCP4 := hid hcp4
  have HCA4 := hid hca4
  have HPU4 := hid hpu4
  have HJ0 := hid hj0
  have HSG := hid hsg
  have HZ4 : Hid (w2.heap.size ≤ w4.heap.size) := hid (by rw [hz4]; exact hz3)
  have hrow : Hid (∀ b, (Value.slice ao2 n cap).ownBlock = some b → w2.heap.size ≤ b) := hid fun b hb => (hoc.lt b hb).1
  clear hw4 hb4 hcp4 hca4 hpu4 hj0 hsg hat hoc hb3 HC2 HCP2 HCA2 HPU2 HB2 hcl css
  have hn63 : n ≤ 9223372036854775807 := by omega
  go_wp2_with fail
  rw [HW4.out]
  clear c1 d1
  have c4 := HCP4.out.cell 1 _ rfl
  go_wp2_with fail
  go_loopw [3, 16] (fun _ i wr => ∃ k : Nat, k ≤ n ∧ i = .int .i64 k ∧ Hid (CpJ w w4 w2.heap.size n (.slice ao2 n cap) fs k wr)) (fun _ i _ => n - (intOf i).toNat)
  case atStart => exact ⟨0, Nat.zero_le _, rfl, HJ0⟩
  case round =>
    obtain ⟨k, hkn, rfl, HJ⟩ := hrel
    have hgr := HJ.out.gr
    have hzr : w4.heap.size ≤ wr.heap.size := hgr.size
    have hblk : ∀ b, b < w2.heap.size → wr.heap[b]? = w4.heap[b]? := fun b hb => hgr.block b (by have := HZ4.out; omega) (fun e => by have := hrow.out b e.symm; omega)
    have hp4 : p + 1 < w2.heap.size := by have := HZ2.out; omega
    have HCP := hid (HCP4.out.same (hblk p (by omega)))
    have HCA := hid (HCA4.out.same (hblk (p + 1) hp4))
    have HBR : Hid (Below p w wr) := hid ⟨hgr.os.trans HB4.out.os, hgr.tape.trans HB4.out.tape, hgr.output.trans HB4.out.output, Nat.le_trans HB4.out.size hgr.size, fun b hb => (hblk b (by omega)).trans (HB4.out.block b hb)⟩
    have HZR := hid hzr
    by_cases hk : k < n
    · obtain ⟨g, rfl⟩ := HSG.out (by omega)
      obtain ⟨f, a1, n1, k1, a2, n2, k2, hfk, hr1, hr2, hw1, hw2, hw3, hBg, hgl, hcell⟩ := HJ.out.at HFN.out hk
      obtain ⟨fn, pc, ls, base, lb⟩ := f
      simp only at hr1 hr2 hw1 hw2 hw3 hcell
      have e0 := (hcell 0 _ rfl).1
      have e1 := (hcell 1 _ rfl).1
      have e2 := (hcell 2 _ rfl).1
      have e3 := (hcell 3 _ rfl).1
      have e4 := (hcell 4 _ rfl).1
      have x2 := (hcell 2 _ rfl).2
      have x4 := (hcell 4 _ rfl).2
      rw [Nat.add_zero] at e0
      have HFK := hid hfk
      have HL := HT3.out _ (List.mem_of_getElem? hfk)
      have hl1 : n1 ≤ 1000000 := by have := HL.1; simp only at this; rw [hr1.len] at this; exact this
      have hl2 : n2 ≤ 1000000 := by have := HL.2; simp only at this; rw [hr2.len] at this; exact this
      obtain ⟨wq, hwq⟩ : ∃ wq, wr.alloc (.cells #[.int .i64 fn, .int .i64 pc, .slice a1 n1 k1, .int .i64 base, .slice a2 n2 k2] 42) = wq := ⟨_, rfl⟩
      obtain ⟨q, hq⟩ : ∃ q, wr.heap.size = q := ⟨_, rfl⟩
      have hbq : Below wr.heap.size wr wq := by rw [← hwq]; exact Bl.alloc (Bl.refl _) _
      have hzq : wq.heap.size = q + 1 := by rw [← hwq, ← hq]; simp
      have HCQ : Hid (Cel wq q [.int .i64 fn, .int .i64 pc, .slice a1 n1 k1, .int .i64 base, .slice a2 n2 k2]) := hid (by rw [← hwq, ← hq]; exact Cel.new wr _ _)
      have HCP := hid (HCP.out.below (Nat.succ_pos _) hbq)
      have HJQ := hid (HJ.out.below hbq)
      have HBQ : Hid (Below p w wq) := hid (HBR.out.trans (hbq.mono (by have := HZ4.out; have := HZ2.out; omega)))
      have hgq : g < q := by omega
      have x2q := (hbq.frozen (p := ⟨g, k * 5 + 2, none⟩) hgl).trans x2
      have y2q := (hbq.cell (p := ⟨g, k * 5 + 2, none⟩) hgl).trans e2
      have x4q := (hbq.frozen (p := ⟨g, k * 5 + 4, none⟩) hgl).trans x4
      have y4q := (hbq.cell (p := ⟨g, k * 5 + 4, none⟩) hgl).trans e4
      have HR1 := hid hr1
      have HR2 := hid hr2
      have HWQ := hid hwq
      have HQ := hid hq
      have HZQ := hid hzq
      have hpg : p < g := by omega
      have hpq : p < q := by omega
      obtain ⟨WB, hWB⟩ : ∃ WB, WB = wq.heap.size := ⟨_, rfl⟩
      have HWB := hid hWB
      clear hr1 hr2 hcell hwq hq hzq HJ hfk HL hbq hgr hblk hWB x2 x4 hzr
      go_wp2_with fail
      rw [HWQ.out, HQ.out]
      clear e0 e1 e2 e3 e4
      refine wp_region_below_tail 6 (by kernel_rfl) [Is (.pointer (some ⟨p, 1, none⟩)), Is (.slice (some ⟨g, 0, none⟩) n cap), Is ?vA2, Is ?vA3, Is (.slice a1 n1 k1), IsOg 39 2 PaR WB (ls)] _ rfl (by kernel_rfl) rfl (by kernel_rfl) ?hopA ?hstA ?hendA
      case hopA =>
        refine ⟨rq _ _ _ [(1, .pointer (some ⟨p, 0, none⟩))] ⟨⟨by kernel_rfl, rfl⟩, trivial⟩ ?_, ?_⟩
        · intro a w1 hC e1
          refine Or.inl ⟨_, ?_, rfl⟩
          go_simp
          all_goals rfl
        refine ⟨rq _ _ _ [] trivial ?_, ?_⟩
        · intro a w1 hC  (h0 : a.tmps.getD 21 undef = _)
          refine Or.inl ⟨.slice (some ⟨g, 0, none⟩) n cap, ?_, rfl⟩
          have hcw := (HCP.out.below (Nat.succ_pos _) hC).cell 1 _ rfl
          go_simp
        refine ⟨rq _ _ _ [(3, .int .i64 k)] ⟨⟨by kernel_rfl, rfl⟩, trivial⟩ ?_, ?_⟩
        · intro a w1 hC e3
          refine Or.inl ⟨_, ?_, rfl⟩
          go_simp
          first | (go_bits; rfl) | rfl | (rw [if_pos (by omega)])
        refine ⟨rq _ _ _ [(4, .pointer (some ⟨q, 0, none⟩))] ⟨⟨by kernel_rfl, rfl⟩, trivial⟩ ?_, ?_⟩
        · intro a w1 hC e4
          refine Or.inl ⟨_, ?_, rfl⟩
          go_simp
          rfl
        refine ⟨rq _ _ _ [] trivial ?_, ?_⟩
        · intro a w1 hC  (h3 : a.tmps.getD 24 undef = _)
          refine Or.inl ⟨.slice a1 n1 k1, ?_, rfl⟩
          have hcw := (HCQ.out.below (Nat.succ_pos _) hC).cell 2 _ rfl
          go_simp
        refine ⟨rq _ _ _ [] trivial ?_, ?_⟩
        · intro a w1 hC  (h4 : a.tmps.getD 25 undef = _)
          refine Or.inr (Or.inl ⟨35, #[.slice a1 n1 k1], ?_, ?_⟩)
          · go_simp
          · refine (copyVal_to a1 n1 k1 ls w1 (HR1.out.below2 (by rw [hp]; exact HBQ.out.trans (hC.mono (by rw [HZQ.out]; omega)))) hl1).mono ?_
            rintro e w2 ⟨vv, rfl, hown, hbel⟩
            exact ⟨_, rfl, hown.lift (by rw [HWB.out]; exact hC.size), hbel⟩
        exact trivial
      case hstA => repeat (first | exact trivial | refine ⟨Stays.is _, ?_⟩ | refine ⟨Stays.og _ _ _ _ _, ?_⟩)
      case hendA =>
        intro w1 hC
        rintro _ rfl _ rfl _ rfl _ rfl _ rfl
        intro x5 h5
        obtain ⟨o5, m5, rfl, _, _, _⟩ := OwnG.shape h5
        simp only [Ends, Act.put, List.setIfInBounds_toArray, List.set_cons_succ, List.set_cons_zero, List.drop_succ_cons, List.drop_zero]
        have hg1 : g < wq.heap.size := by rw [HZQ.out]; omega
        have y2 := (hC.cell (p := ⟨g, k * 5 + 2, none⟩) hg1).trans y2q
        have x2 := (hC.frozen (p := ⟨g, k * 5 + 2, none⟩) hg1).trans x2q
        obtain ⟨wa, hwa⟩ : ∃ wa, w1.setCell ⟨g, k * 5 + 2, none⟩ (.slice o5 ls.length m5) = wa := ⟨_, rfl⟩
        have hza : wa.heap.size = w1.heap.size := by rw [← hwa]; simp
        have hszq := hC.size
        have HCQa : Hid (Cel wa q [.int .i64 fn, .int .i64 pc, .slice a1 n1 k1, .int .i64 base, .slice a2 n2 k2]) := hid (by rw [← hwa]; exact (HCQ.out.below (Nat.succ_pos _) hC).other (by omega) _ _)
        have HCPa : Hid (Cel wa p [.slice o1 vn cap1, .slice (some ⟨g, 0, none⟩) n cap, .int .i64 asks]) := hid (by rw [← hwa]; exact (HCP.out.below (Nat.succ_pos _) hC).other (by omega) _ _)
        have HBa : Hid (Below p w wa) := hid (by rw [← hwa]; exact (HBQ.out.trans (hC.mono (by rw [HZQ.out]; omega))).setCell (p := ⟨g, k * 5 + 2, none⟩) (by simp only; omega) _)
        have x4 : wa.frozen? ⟨g, k * 5 + 4, none⟩ = false := by
          have := (hC.frozen (p := ⟨g, k * 5 + 4, none⟩) hg1).trans x4q
          rw [← hwa, World.frozen?_setCell]
          exact this
        have y4 : wa.cell? ⟨g, k * 5 + 4, none⟩ = some (.slice a2 n2 k2) := by
          have := (hC.cell (p := ⟨g, k * 5 + 4, none⟩) hg1).trans y4q
          rw [← hwa, World.cell?_setCell_other _ _ _ _ (by intro e; simp only [Addr.mk.injEq] at e; omega)]
          exact this
        rw [HWB.out] at h5
        have H5 := hid h5
        have HC5 := hid hC
        have HWa := hid hwa
        have HZa : Hid (q + 1 ≤ wa.heap.size) := hid (by rw [hza, ← HZQ.out]; exact hszq)
        clear h5 hC hwa hza hszq
        obtain ⟨WC, hWC⟩ : ∃ WC, WC = wa.heap.size := ⟨_, rfl⟩
        have HWC := hid hWC
        clear hWC
        go_wp2_with fail
        rw [HWa.out]
        clear x2 y2
        have HCP := HCPa
        have HCQ := HCQa
        refine wp_region_below_tail 6 (by kernel_rfl) [Is (.pointer (some ⟨p, 1, none⟩)), Is (.slice (some ⟨g, 0, none⟩) n cap), Is ?vB2, Is ?vB3, Is (.slice a2 n2 k2), IsOg 44 2 PaR WC (lb)] _ rfl (by kernel_rfl) rfl (by kernel_rfl) ?hopB ?hstB ?hendB
        case hopB =>
          refine ⟨rq _ _ _ [(1, .pointer (some ⟨p, 0, none⟩))] ⟨⟨by kernel_rfl, rfl⟩, trivial⟩ ?_, ?_⟩
          · intro a w1 hC e1
            refine Or.inl ⟨_, ?_, rfl⟩
            go_simp
            all_goals rfl
          refine ⟨rq _ _ _ [] trivial ?_, ?_⟩
          · intro a w1 hC  (h0 : a.tmps.getD 29 undef = _)
            refine Or.inl ⟨.slice (some ⟨g, 0, none⟩) n cap, ?_, rfl⟩
            have hcw := (HCP.out.below (Nat.succ_pos _) hC).cell 1 _ rfl
            go_simp
          refine ⟨rq _ _ _ [(3, .int .i64 k)] ⟨⟨by kernel_rfl, rfl⟩, trivial⟩ ?_, ?_⟩
          · intro a w1 hC e3
            refine Or.inl ⟨_, ?_, rfl⟩
            go_simp
            first | (go_bits; rfl) | rfl | (rw [if_pos (by omega)])
          refine ⟨rq _ _ _ [(4, .pointer (some ⟨q, 0, none⟩))] ⟨⟨by kernel_rfl, rfl⟩, trivial⟩ ?_, ?_⟩
          · intro a w1 hC e4
            refine Or.inl ⟨_, ?_, rfl⟩
            go_simp
            rfl
          refine ⟨rq _ _ _ [] trivial ?_, ?_⟩
          · intro a w1 hC  (h3 : a.tmps.getD 32 undef = _)
            refine Or.inl ⟨.slice a2 n2 k2, ?_, rfl⟩
            have hcw := (HCQ.out.below (Nat.succ_pos _) hC).cell 4 _ rfl
            go_simp
          refine ⟨rq _ _ _ [] trivial ?_, ?_⟩
          · intro a w1 hC  (h4 : a.tmps.getD 33 undef = _)
            refine Or.inr (Or.inl ⟨37, #[.slice a2 n2 k2], ?_, ?_⟩)
            · go_simp
            · refine (copyLab_to a2 n2 k2 lb w1 (HR2.out.below2 (by rw [hp]; exact HBa.out.trans (hC.mono (by have := HZa.out; omega)))) hl2).mono ?_
              rintro e w2 ⟨vv, rfl, hown, hbel⟩
              exact ⟨_, rfl, hown.lift (by rw [HWC.out]; exact hC.size), hbel⟩
          exact trivial
        case hstB => repeat (first | exact trivial | refine ⟨Stays.is _, ?_⟩ | refine ⟨Stays.og _ _ _ _ _, ?_⟩)
        case hendB =>
          intro w1 hC
          rintro _ rfl _ rfl _ rfl _ rfl _ rfl
          intro x5 h5
          obtain ⟨o6, m6, rfl, _, _, _⟩ := OwnG.shape h5
          simp only [Ends, Act.put, List.setIfInBounds_toArray, List.set_cons_succ, List.set_cons_zero, List.drop_succ_cons, List.drop_zero]
          have hg1 : g < wa.heap.size := by have := HZa.out; omega
          have y4 := (hC.cell (p := ⟨g, k * 5 + 4, none⟩) hg1).trans y4
          have x4 := (hC.frozen (p := ⟨g, k * 5 + 4, none⟩) hg1).trans x4
          rw [HWC.out] at h5
          have HJN : Hid (CpJ w w4 w2.heap.size n (.slice (some ⟨g, 0, none⟩) n cap) fs (k + 1) (w1.setCell ⟨g, k * 5 + 4, none⟩ (.slice o6 lb.length m6))) := by
            have hwa := HWa.out
            subst hwa
            exact hid (CpJ.step HJQ.out HZ4.out HFN.out hk HFK.out (Below.refl _ _) HC5.out H5.out hC h5)
          clear h5 hC
          go_wp2_with fail
          go_roundw
          case rel => exact ⟨k + 1, by omega, by go_num, HJN⟩
          case measure => simp [intOf]; omega
    · have e0 : k = n := by omega
      subst e0
      have g0 := HCP.out.cell 0 _ rfl
      have g1 := HCP.out.cell 1 _ rfl
      have g2 := HCP.out.cell 2 _ rfl
      have a0 := HCA.out.cell 0 _ rfl
      have a1 := HCA.out.cell 1 _ rfl
      have a2 := HCA.out.cell 2 _ rfl
      have fa0 := HCA.out.fro 0 _ rfl
      have fa1 := HCA.out.fro 1 _ rfl
      have fa2 := HCA.out.fro 2 _ rfl
      have HBL := hid hblk
      clear hgr hblk hzr
      go_wp2_with fail
      refine bodyPost_ret (v := .agg #[.slice o1 vn cap1, .slice ao2 k cap, .int .i64 asks]) (by simp [results, Try.results18, go_sem, a0, a1, a2]) rfl ⟨⟨o1, vn, cap1, ao2, k, cap⟩, rfl, ?_, ?_⟩
      · have hst : ∀ b, w2.heap.size ≤ b ∨ (p + 1 + 1 ≤ b ∧ b < w2.heap.size) → (((wr.setCell ⟨p + 1, 0, none⟩ (.slice o1 vn cap1)).setCell ⟨p + 1, 1, none⟩ (.slice ao2 k cap)).setCell ⟨p + 1, 2, none⟩ (.int .i64 asks)).heap[b]? = wr.heap[b]? := fun b hb =>
          (Below.heap_setCell _ _ _ b (by simp only; omega)).trans ((Below.heap_setCell _ _ _ b (by simp only; omega)).trans (Below.heap_setCell _ _ _ b (by simp only; omega)))
        have q1 : Bx (fun b => p + 1 + 1 ≤ b ∧ b < w2.heap.size) (((wr.setCell ⟨p + 1, 0, none⟩ (.slice o1 vn cap1)).setCell ⟨p + 1, 1, none⟩ (.slice ao2 k cap)).setCell ⟨p + 1, 2, none⟩ (.int .i64 asks)) fun w => RdG 2 PaR w o1 vn cap1 vs ∧ Unf w o1 (vn * 2) :=
          HPU4.out.keep fun b hb => (hst b (.inr hb)).trans (HBL.out b hb.2)
        obtain ⟨css, hc, hl, hx⟩ := HJ.out.ex
        have hog : OwnG 42 5 FrU w2.heap.size wr (.slice ao2 k cap) fs := ⟨css, by rw [hl, HFN.out], hc, fun i cs x h1 h2 => (hx i cs x h1 h2).1 (by have := (List.getElem?_eq_some_iff.1 h1).1; omega)⟩
        have hq2 := hog.bxs (Nat.le_refl _)
        have q2 : Bx (fun b => w2.heap.size ≤ b ∧ b < wr.heap.size) (((wr.setCell ⟨p + 1, 0, none⟩ (.slice o1 vn cap1)).setCell ⟨p + 1, 1, none⟩ (.slice ao2 k cap)).setCell ⟨p + 1, 2, none⟩ (.int .i64 asks)) fun w => RdG 5 FrU w ao2 k cap fs := hq2.keep fun b hb => hst b (.inl hb.1)
        have q3 : Bx (fun b => w2.heap.size ≤ b ∧ b < wr.heap.size) (((wr.setCell ⟨p + 1, 0, none⟩ (.slice o1 vn cap1)).setCell ⟨p + 1, 1, none⟩ (.slice ao2 k cap)).setCell ⟨p + 1, 2, none⟩ (.int .i64 asks)) fun w => Unf w ao2 (k * 5) := by
          intro w' h' b off e0 i hi
          obtain ⟨g, e4⟩ := HSG.out (by omega)
          subst e4
          cases e0
          have hi2 : i / 5 < css.length := by rw [hl]; omega
          have hm : i % 5 < 5 := Nat.mod_lt _ (by decide)
          have hmem : css.getD (i / 5) [] ∈ css := by
            simp only [List.getD, List.getElem?_eq_getElem hi2, Option.getD_some]
            exact List.getElem_mem hi2
          have hw := hc.wid _ hmem
          have hcell := hc.cell (i / 5) (i % 5) hi2 (List.getElem?_eq_getElem (by rw [hw]; exact hm))
          have e5 : i / 5 * 5 + i % 5 = i := by omega
          rw [e5] at hcell
          rw [Nat.zero_add]
          exact (World.frozen?_of_block (a := ⟨b, i, none⟩) ((h' b ⟨hcell.2.2.2, hcell.2.2.1⟩).trans (hst b (.inl hcell.2.2.2)))).trans hcell.2.1
        have hz := HZR.out
        have hz4 := HZ4.out
        have hz2 := HZ2.out
        have m1 := q1.more (C' := fun b => w.heap.size ≤ b ∧ b < (((wr.setCell ⟨p + 1, 0, none⟩ (.slice o1 vn cap1)).setCell ⟨p + 1, 1, none⟩ (.slice ao2 k cap)).setCell ⟨p + 1, 2, none⟩ (.int .i64 asks)).heap.size) fun b hb => ⟨by omega, by simp; omega⟩
        have m2 := q2.more (C' := fun b => w.heap.size ≤ b ∧ b < (((wr.setCell ⟨p + 1, 0, none⟩ (.slice o1 vn cap1)).setCell ⟨p + 1, 1, none⟩ (.slice ao2 k cap)).setCell ⟨p + 1, 2, none⟩ (.int .i64 asks)).heap.size) fun b hb => ⟨by omega, by simp; omega⟩
        have m3 := q3.more (C' := fun b => w.heap.size ≤ b ∧ b < (((wr.setCell ⟨p + 1, 0, none⟩ (.slice o1 vn cap1)).setCell ⟨p + 1, 1, none⟩ (.slice ao2 k cap)).setCell ⟨p + 1, 2, none⟩ (.int .i64 asks)).heap.size) fun b hb => ⟨by omega, by simp; omega⟩
        exact fun w' h' => ⟨(m1 w' h').1, m2 w' h', HWA.out, (m1 w' h').2, m3 w' h'⟩
      · rw [hp]
        exact ((HBR.out.setCell (p := ⟨p + 1, 0, none⟩) (Nat.le_succ _) _).setCell (p := ⟨p + 1, 1, none⟩) (Nat.le_succ _) _).setCell (p := ⟨p + 1, 2, none⟩) (Nat.le_succ _) _
end Go.Proofs.Ytnbegmlbkjjggaa
