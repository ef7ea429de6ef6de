/- space: SetGlobal, Globals; slices.Clone of values. -/
import Derived.Test.YthknmoaffapkhaaSpn
import Derived.BigQuiet
import Derived.Deep.QuietTactic
namespace Go.Proofs.Ythknmoaffapkhaa
open Go.RowKit Go.Maps
set_option linter.unusedVariables false

theorem OwnC.empty (w : World) (E : TypeId) (s : Nat) {base : Nat} (hb : base ≤ w.heap.size) : OwnC E s base (w.alloc (.cells #[] E)) (.slice (some ⟨w.heap.size, 0, none⟩) 0 0) [] :=
  ⟨⟨by simp, .inr ⟨w.heap.size, 0, #[], rfl, hb, heap_alloc_new w _, Nat.le_refl _, Nat.zero_le _, by simp, by simp⟩⟩, fun _ h => by cases h⟩
theorem flat_vc (V : List (Int × Int)) : (V.map vc).flatten.length = V.length * 2 := by
  rw [flat_len' 2 _ (vc_wid V), List.length_map]
theorem flat_one (V : List (Int × Int)) : ∀ u ∈ (V.map vc).flatten, u.oneCell' = true := by
  intro u hu
  obtain ⟨r, hr, hu⟩ := List.mem_flatten.1 hu
  obtain ⟨v, _, rfl⟩ := List.mem_map.1 hr
  simp [vc] at hu
  rcases hu with rfl | rfl <;> simp [Value.oneCell']
/-- Each cell of a row of values that is read. -/
theorem OwnC.news {E : TypeId} {B g n cap : Nat} {w : World} {V : List (Int × Int)} (h : OwnC E 2 B w (.slice (some ⟨g, 0, none⟩) n cap) (V.map vc)) : ∀ j u, (V.map vc).flatten[j]? = some u → w.cell? ((⟨g, 0, none⟩ : Addr).add j) = some u := h.row.cells rfl

theorem clone_to {B n cap : Nat} {g : Nat} {w : World} {V : List (Int × Int)} (h : OwnC 39 2 B w (.slice (some ⟨g, 0, none⟩) n cap) (V.map vc)) (hn : V.length = n) (hv : n ≤ 16) :
    Calls Try.prog 20 #[.slice (some ⟨g, 0, none⟩) n cap] w fun e w' => ∃ v, e = .returned v ∧ OwnC 39 2 w.heap.size w' v (V.map vc) ∧ Below w.heap.size w w' := by
  have hnews := (h.alloc (.cells #[] 39)).news
  have he := fun w => Lib.run_eql_slice_nil (P := Try.prog) w 22 39 (some ⟨g, 0, none⟩) n cap 0 0 Try.underlying22
  have HN := hid (And.intro hnews hn)
  clear h hnews hn
  obtain ⟨i1, hi1, hy0, hy1, hy2⟩ := info_parts infoV
  go_enter Try.func20, Try.ntmps20
  go_wp2_with (at_builtin; apply stopHere)
  refine hid ?_
  refine wpList_append_own _ rfl (.tmp 5) (.tmp 6) 22 rfl w.heap.size 39 i1 _ 2 16 Try.underlying22 hi1 hy0 hy1 hy2 rfl (by decide) _ 0 _ rfl (OwnC.empty w 39 2 (Nat.le_refl _)).row ⟨g, 0, none⟩ n cap (V.map vc).flatten rfl (by rw [flat_vc, HN.out.2]) HN.out.1 (flat_one V) (by unfold maxLen; omega) (by omega) (by simp) ?_
  intro v w2 h1 h2 _
  have hb : Below w.heap.size w w2 := (Bl.alloc (Bl.refl w) (.cells #[] 39)).trans ((Below.refl _ _).grown h2 (by simp) (fun b hb => by
    have e : w.heap.size = b := by simpa [Value.ownBlock, Act.eval] using hb
    omega))
  have ho : OwnC 39 2 w.heap.size w2 v (V.map vc) := ⟨by simpa [HN.out.2] using h1, vc_wid V⟩
  have H := hid (And.intro ho hb)
  clear h1 h2 ho hb
  go_wp2_with fail
  go_ret
  exact ⟨v, rfl, H.out.1, H.out.2⟩
theorem clone_nil (w : World) : Calls Try.prog 20 #[.slice none 0 0] w fun e w' => e = .returned (.slice none 0 0) ∧ w = w' := by
  have he := fun w => Lib.run_eql_slice_nil (P := Try.prog) w 22 39 none 0 0 0 0 Try.underlying22
  go_enter Try.func20, Try.ntmps20
  go_wp2_with fail
  go_ret
  exact ⟨rfl, rfl⟩
theorem globals_nil (w : World) : Calls Try.prog 11 #[.pointer none] w fun e w' => e = .returned (.slice none 0 0) ∧ w = w' := by
  go_enter Try.func11, Try.ntmps11
  go_wp2_with fail
  go_ret
  exact ⟨rfl, rfl⟩
theorem globals_to {B nb : Nat} {w : World} {S : Spc} {T : List Int} {V : List (Int × Int)} (h : SpAt B w S nb T V) :
    Calls Try.prog 11 #[spv S] w fun e w' => ∃ v, e = .returned v ∧ OwnC 39 2 w.heap.size w' v (V.map vc) ∧ Below w.heap.size w w' := by
  obtain ⟨_, _, c2⟩ := h.cells
  have hgl := h.gl
  have hv := h.vs
  rcases hgl.row.2 with ⟨e, hn⟩ | ⟨g, cap, cur, e, _⟩
  · have hV : V = [] := by cases V <;> simp_all
    subst hV
    rw [e] at c2
    clear h hgl hn e
    have hc := clone_nil w
    go_enter Try.func11, Try.ntmps11
    go_wp2_with fail
    refine hc.mono ?_
    rintro e w' ⟨rfl, rfl⟩
    go_wp2_with fail
    go_ret
    exact ⟨_, rfl, OwnC.nil _ _ _ _, Below.refl _ _⟩
  · rw [List.length_map] at e
    rw [e] at c2 hgl
    have hc := clone_to hgl rfl hv
    obtain ⟨n, hn⟩ : ∃ n, V.length = n := ⟨_, rfl⟩
    rw [hn] at c2 hc
    clear h hgl e hn hv
    go_enter Try.func11, Try.ntmps11
    go_wp2_with fail
    refine hc.mono ?_
    rintro e w' ⟨v, rfl, h1, h2⟩
    have H := hid (And.intro h1 h2)
    clear h1 h2 hc
    go_wp2_with fail
    go_ret
    exact ⟨_, rfl, H.out⟩

theorem setGlobal_nil (i k n : Int) (w : World) : Calls Try.prog 10 #[.pointer none, .int .i64 i, .agg #[.int .i64 k, .int .i64 n]] w fun e w' => e = .returned (.bool false) ∧ Below w.heap.size w w' := by
  have hh := fun w => hasGlobal_nil i w
  go_enter Try.func10, Try.ntmps10
  go_wp2_with fail
  go_quiet ((go_at_call 19; exact Calls.quiet_eq (hh _)))
  go_wp2_with fail
  go_ret
  exact ⟨rfl, (Bl.alloc (Bl.refl _) _).trans (below_drewN _ _ _)⟩
theorem setGlobal_no {B nb : Nat} {w : World} {S : Spc} {T : List Int} {V : List (Int × Int)} (h : SpAt B w S nb T V) (i k n : Int) (hi : i < 0 ∨ (V.length : Int) ≤ i) :
    Calls Try.prog 10 #[spv S, .int .i64 i, .agg #[.int .i64 k, .int .i64 n]] w fun e w' => e = .returned (.bool false) ∧ Below w.heap.size w w' := by
  have h1 := h.alloc (.cells #[.int .i64 k, .int .i64 n] 39)
  have hh := fun m => hasGlobal_to (h1.bl (below_drewN _ _ m)) i
  rw [show decide (0 ≤ i ∧ i < (V.length : Int)) = false by simp; omega] at hh
  clear h h1 hi
  go_enter Try.func10, Try.ntmps10
  go_wp2_with fail
  go_quiet ((go_at_call 19; exact Calls.quiet_eq (hh _)))
  go_wp2_with fail
  go_ret
  exact ⟨rfl, (Bl.alloc (Bl.refl _) _).trans (below_drewN _ _ _)⟩
theorem setGlobal_kind {B nb : Nat} {w : World} {S : Spc} {T : List Int} {V : List (Int × Int)} (h : SpAt B w S nb T V) (i : Nat) (k n : Int) (hi : i < V.length) (hk : (V.getD i (0, 0)).1 ≠ k) :
    Calls Try.prog 10 #[spv S, .int .i64 (i : Int), .agg #[.int .i64 k, .int .i64 n]] w fun e w' => e = .returned (.bool false) ∧ Below w.heap.size w w' := by
  have h1 := h.alloc (.cells #[.int .i64 k, .int .i64 n] 39)
  have hh := fun m => hasGlobal_to (h1.bl (below_drewN _ _ m)) i
  rw [show decide (0 ≤ (i : Int) ∧ (i : Int) < (V.length : Int)) = true by simp; omega] at hh
  obtain ⟨_, _, c2⟩ := h.cells
  have hlt := h.lt.1
  obtain ⟨ao, cap, e, hl, hc, hg⟩ := h.gl.shape
  have hgl := h.gl
  rw [List.length_map] at e hl hg
  obtain ⟨g, rfl⟩ := hg (by omega)
  rw [e] at c2 hgl
  have v0 := hgl.cell i 0 (u := .int .i64 (V.getD i (0, 0)).1) (by simpa using hi) (by rw [vc_get V i hi]; rfl)
  obtain ⟨x, hx⟩ : ∃ x, (V.getD i (0, 0)).1 = x := ⟨_, rfl⟩
  rw [hx] at v0 hk
  have a0 := v0.1
  have hgw := v0.2.2.1
  obtain ⟨m, hm⟩ : ∃ m, V.length = m := ⟨_, rfl⟩
  rw [hm] at c2 hi hl
  have hm63 : m ≤ 9223372036854775807 := by omega
  rw [Nat.add_zero] at a0
  have hne : (x != k) = true := by simp [hk]
  clear v0 hx hgl e h h1 hg hm hk
  go_enter Try.func10, Try.ntmps10
  go_wp2_with fail
  go_quiet ((go_at_call 19; exact Calls.quiet_eq (hh _)))
  go_wp2_with fail
  go_ret
  exact ⟨rfl, (Bl.alloc (Bl.refl _) _).trans (below_drewN _ _ _)⟩
/-- A global is written. -/
theorem SpAt.setV {B nb g i n cap : Nat} {w : World} {p bm : Nat} {T : List Int} {V : List (Int × Int)} (h : SpAt B w ⟨p, bm, .slice (some ⟨g, 0, none⟩) n cap⟩ nb T V) (hi : i < V.length) (v : Int × Int) :
    SpAt B ((w.setCell ⟨g, i * 2, none⟩ (.int .i64 v.1)).setCell ⟨g, i * 2 + 1, none⟩ (.int .i64 v.2)) ⟨p, bm, .slice (some ⟨g, 0, none⟩) n cap⟩ nb T (V.set i v) := by
  have hn := h.neg
  have e1 : p ≠ g := fun e => hn.2.1 (by rw [e]; rfl)
  have e2 : bm ≠ g := fun e => hn.2.2 (by rw [e]; rfl)
  obtain ⟨D, hm, hD⟩ := h.map
  have hg1 := h.gl.set i 0 (.int .i64 v.1) (by simpa using hi) (by decide)
  have hg2 := hg1.set i 1 (.int .i64 v.2) (by simpa using hi) (by decide)
  refine ⟨(h.blk.far (p := ⟨g, i * 2, none⟩) e1 _).far (p := ⟨g, i * 2 + 1, none⟩) e1 _, ⟨D, (hm.setCell (a := ⟨g, i * 2, none⟩) e2 _).setCell (a := ⟨g, i * 2 + 1, none⟩) e2 _, hD⟩, ?_, h.small, by simpa using h.vs, h.nbl, h.hp, h.hb⟩
  have e3 : (V.set i v).map vc = ((V.map vc).set i (((V.map vc).getD i []).set 0 (.int .i64 v.1))).set i (((((V.map vc).set i (((V.map vc).getD i []).set 0 (.int .i64 v.1)))).getD i []).set 1 (.int .i64 v.2)) := by
    rw [List.set_set, List.map_set]
    congr 1
    have hi' : i < (V.map vc).length := by simpa using hi
    simp [List.getD, hi, vc]
  rw [e3]
  exact hg2
set_option maxHeartbeats 1000000 in
theorem setGlobal_to {B nb : Nat} {w : World} {S : Spc} {T : List Int} {V : List (Int × Int)} (h : SpAt B w S nb T V) (i : Nat) (k n : Int) (hi : i < V.length) (hk : (V.getD i (0, 0)).1 = k) :
    Calls Try.prog 10 #[spv S, .int .i64 (i : Int), .agg #[.int .i64 k, .int .i64 n]] w fun e w' => e = .returned (.bool true) ∧ SpAt B w' S nb T (V.set i (k, n)) ∧ ∃ g, S.gs.ownBlock = some g ∧ Wr g w w' := by
  have h1 := h.alloc (.cells #[.int .i64 k, .int .i64 n] 39)
  have hh := fun m => hasGlobal_to (h1.bl (below_drewN _ _ m)) i
  rw [show decide (0 ≤ (i : Int) ∧ (i : Int) < (V.length : Int)) = true by simp; omega] at hh
  obtain ⟨_, _, c2⟩ := h.cells
  have hlt := h.lt.1
  obtain ⟨ao, cap, e, hl, hc, hg⟩ := h.gl.shape
  have hgl := h.gl
  rw [List.length_map] at e hl hg
  obtain ⟨g, rfl⟩ := hg (by omega)
  obtain ⟨p, bm, gs⟩ := S
  simp only at e
  subst e
  have v0 := hgl.cell i 0 (u := .int .i64 (V.getD i (0, 0)).1) (by simpa using hi) (by rw [vc_get V i hi]; rfl)
  have v1 := hgl.cell i 1 (u := .int .i64 (V.getD i (0, 0)).2) (by simpa using hi) (by rw [vc_get V i hi]; rfl)
  rw [hk] at v0
  have a0 : w.cell? ⟨g, i * 2, none⟩ = some (.int .i64 k) := v0.1
  have a1 := v1.1
  have f0 : w.frozen? ⟨g, i * 2, none⟩ = false := v0.2.1
  have f1 := v1.2.1
  have hgw : g < w.heap.size := v0.2.2.1
  replace c2 : w.cell? ⟨p, 2, none⟩ = some (.slice (some ⟨g, 0, none⟩) V.length cap) := c2
  replace hlt : p < w.heap.size := hlt
  have hgp : g ≠ p := fun e => h.neg.2.1 (by rw [← e]; rfl)
  obtain ⟨m, hm⟩ : ∃ m, V.length = m := ⟨_, rfl⟩
  have HS := hid (And.intro h1 (And.intro hi hm))
  rw [hm] at c2 hi hl
  have hm63 : m ≤ 9223372036854775807 := by omega
  clear v0 v1 hgl h h1 hg hm hk
  go_enter Try.func10, Try.ntmps10
  go_wp2_with fail
  go_quiet ((go_at_call 19; exact Calls.quiet_eq (hh _)))
  go_wp2_with fail
  go_region
  have h2 := (HS.out.1.bl (below_drewN _ _ (nq + 1))).setV HS.out.2.1 (k, n)
  have hW : Wr g w ((((w.alloc (.cells #[.int .i64 k, .int .i64 n] 39)).drewN (nq + 1)).setCell ⟨g, i * 2, none⟩ (.int .i64 k)).setCell ⟨g, i * 2 + 1, none⟩ (.int .i64 n)) := ((((Wr.refl g w).alloc _).drewN _).set _ _).set _ _
  have H := hid (And.intro h2 hW)
  clear h2 hW HS
  simp only at H
  generalize (((w.alloc (.cells #[.int .i64 k, .int .i64 n] 39)).drewN (nq + 1)).setCell ⟨g, i * 2, none⟩ (.int .i64 k)).setCell ⟨g, i * 2 + 1, none⟩ (.int .i64 n) = w3 at H ⊢
  go_wp2_with fail
  go_ret
  exact ⟨rfl, H.out.1, g, rfl, H.out.2⟩
end Go.Proofs.Ythknmoaffapkhaa
