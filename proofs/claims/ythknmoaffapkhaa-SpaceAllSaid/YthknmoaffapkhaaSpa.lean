/- space: what a Space is (its block, its map, its row of globals); hasElems, hasGlobal, Elem, Global. -/
import Derived.Test.YthknmoaffapkhaaBlk
import Derived.Test.YthknmoaffapkhaaCodeRows
import Derived.Test.YthknmoaffapkhaaRegionTail
import Derived.Maps.Views
import Derived.Maps.OwnOps
import Derived.Maps.OwnSet
import Derived.Maps.RangeWalk
import Derived.BigRegion
import Derived.Deep.RegionLaw
import Derived.WalkSpells
import Derived.Test.YthknmoaffapkhaaRows
namespace Go.Proofs.Ythknmoaffapkhaa
open Go.RowKit Go.Maps
set_option linter.unusedVariables false

abbrev key (n : Int) : Lit := .int .i64 n
theorem key_ne {a b : Int} (h : a ≠ b) : key a ≠ key b := fun e => by cases e; exact h rfl
theorem key_is (n : Int) : WideAt.IsKeyLit (key n) := by trivial
theorem keyedI : Keyed Try.prog 3 := int_keyed Try.underlying3
theorem zeroI (w : World) : (zeroValue 3).run Try.prog w = .ok (.int .i64 0) w := by kernel_rfl
theorem infoV : (Try.prog.info? 39).map (fun i => (i.zero, i.size, i.bytes)) = some (some (.agg #[.int .i64 0, .int .i64 0]), 2, 16) := by kernel_rfl
theorem infoI : (Try.prog.info? 3).map (fun i => (i.zero, i.size, i.bytes)) = some (some (.int .i64 0), 1, 8) := by kernel_rfl
theorem stopHere {p : Prop} (h : Hid p) : p := h.out
theorem wfI (n : Nat) (h : n ≤ 65536) : (Lit.int .i64 (n : Int)).wf = true := WalkArith.wf_i64 (by omega)

/-- The datum is the table T: -1 where there is none. -/
structure TabD (D : DataW Unit) (T : List Int) : Prop where
  out : ∀ n : Int, (n < 0 ∨ (T.length : Int) ≤ n) → Maps.has D (key n) = false
  non : ∀ j : Nat, j < T.length → T.getD j 0 = -1 → Maps.has D (key j) = false
  is' : ∀ j : Nat, j < T.length → T.getD j 0 ≠ -1 → ∀ z, D.atKey (key j) z = .lit (key (T.getD j 0))
theorem TabD.new (n : Nat) : TabD (.map []) (List.replicate n (-1)) :=
  ⟨fun _ _ => rfl, fun _ _ _ => rfl, fun j hj h => absurd (by simp at hj; simp [List.getD, hj]) h⟩
theorem getD_setI (T : List Int) (i j : Nat) (f : Int) (hi : i < T.length) : (T.set i f).getD j 0 = if i = j then f else T.getD j 0 := by
  simp only [List.getD, List.getElem?_set]
  by_cases e : i = j
  · subst e; simp [hi]
  · simp [e]
theorem TabD.put {D : DataW Unit} {T : List Int} (h : TabD D T) (hm : IsMap D) (i : Nat) (hi : i < T.length) (f : Int) (hf : f ≠ -1) : TabD (D.put (key i) (.lit (key f))) (T.set i f) := by
  refine ⟨fun n hn => ?_, fun j hj hg => ?_, fun j hj hg z => ?_⟩
  · rw [List.length_set] at hn
    rw [has_put_other (key_ne (by omega))]
    exact h.out n hn
  · rw [List.length_set] at hj
    rw [getD_setI T i j f hi] at hg
    by_cases e : i = j
    · rw [if_pos e] at hg; exact absurd hg hf
    · rw [if_neg e] at hg
      rw [has_put_other (key_ne (by omega))]
      exact h.non j hj hg
  · rw [List.length_set] at hj
    rw [getD_setI T i j f hi] at hg ⊢
    by_cases e : i = j
    · subst e
      rw [if_pos rfl, atKey_put_same hm (key_is _)]
    · rw [if_neg e] at hg ⊢
      rw [atKey_put_other (key_ne (by omega))]
      exact h.is' j hj hg z
theorem TabD.has {D : DataW Unit} {T : List Int} (h : TabD D T) (n : Int) : Maps.has D (key n) = decide (0 ≤ n ∧ n < T.length ∧ T.getD n.toNat 0 ≠ -1) := by
  by_cases h0 : 0 ≤ n ∧ n < T.length
  · obtain ⟨m, rfl⟩ : ∃ m : Nat, n = m := ⟨n.toNat, by omega⟩
    rw [Int.toNat_natCast]
    by_cases e : T.getD m 0 = -1
    · rw [h.non m (by omega) e, e]; simp
    · rw [has_true_of_atKey (h.is' m (by omega) e)]; symm; rw [decide_eq_true_eq]; exact ⟨h0.1, h0.2, e⟩
  · rw [h.out n (by omega)]; simp; omega

/-- A value's cells. -/
def vc (v : Int × Int) : List Value := [.int .i64 v.1, .int .i64 v.2]
theorem vc_wid (V : List (Int × Int)) : ∀ r ∈ V.map vc, r.length = 2 := by
  intro r hr
  obtain ⟨v, _, rfl⟩ := List.mem_map.1 hr
  rfl
theorem vc_get (V : List (Int × Int)) (i : Nat) (hi : i < V.length) : (V.map vc).getD i [] = vc (V.getD i (0, 0)) := by simp [List.getD, hi]

/-- Where a Space lies. -/
structure Spc where
  p : Nat
  bm : Nat
  gs : Value
/-- A Space: its table T (-1: empty), its globals V; its map has at most nb entries. -/
structure SpAt (B : Nat) (w : World) (S : Spc) (nb : Nat) (T : List Int) (V : List (Int × Int)) : Prop where
  blk : Blk w S.p 60 [.int .i64 (T.length : Int), .map (some S.bm), S.gs]
  map : ∃ D : DataW Unit, w.ownsMap Try.prog 3 (plainElem Try.prog 3) S.bm nb D ∧ TabD D T
  gl : OwnC 39 2 B w S.gs (V.map vc)
  small : T.length ≤ 16
  vs : V.length ≤ 16
  nbl : nb ≤ 65536
  hp : B ≤ S.p
  hb : B ≤ S.bm

theorem Blk.ne_map {w : World} {g b : Nat} {t : TypeId} {cs : List Value} {H : Type} {P : Program} {k : TypeId} {R : Value → Option (DataW H × List MemPlace)} {n : Nat} {D : DataW H} (h : Blk w g t cs) (h' : w.ownsMap P k R b n D) : g ≠ b := by
  rintro rfl
  obtain ⟨es, clock, hb, _⟩ := h'
  unfold Blk at h
  rw [h] at hb
  cases hb
theorem OwnC.ne_map {E : TypeId} {s B : Nat} {w : World} {v : Value} {rs : List (List Value)} {b : Nat} {H : Type} {P : Program} {k : TypeId} {R : Value → Option (DataW H × List MemPlace)} {n : Nat} {D : DataW H} (h : OwnC E s B w v rs) (h' : w.ownsMap P k R b n D) : v.ownBlock ≠ some b := by
  intro e
  rcases h.row.2 with ⟨rfl, _⟩ | ⟨g, cap, cur, rfl, _, hh, _⟩
  · simp [Value.ownBlock] at e
  · have e2 : g = b := by simpa [Value.ownBlock] using e
    subst e2
    obtain ⟨es, clock, hb, _⟩ := h'
    rw [hh] at hb
    cases hb
theorem OwnC.ne_blk {E : TypeId} {s B : Nat} {w : World} {v : Value} {rs : List (List Value)} {g : Nat} {t : TypeId} {cs : List Value} (h : OwnC E s B w v rs) (hg : Blk w g t cs) (hne : E ≠ t) : v.ownBlock ≠ some g := by
  rcases h.row.2 with ⟨rfl, _⟩ | ⟨g', cap, cur, rfl, _, hh, _⟩
  · simp [Value.ownBlock]
  · intro he
    have : g' = g := by simpa [Value.ownBlock] using he
    subst this
    unfold Blk at hg
    rw [hh] at hg
    injection hg with hg
    injection hg with _ ht
    exact hne ht
theorem Own.ne_map {E : TypeId} {q : IntKind} {B : Nat} {w : World} {v : Value} {xs : List Int} {b : Nat} {H : Type} {P : Program} {k : TypeId} {R : Value → Option (DataW H × List MemPlace)} {n : Nat} {D : DataW H} (h : Own E q B w v xs) (h' : w.ownsMap P k R b n D) : v.ownBlock ≠ some b := by
  intro e
  rcases h.row.2 with ⟨rfl, _⟩ | ⟨g, cap, cur, rfl, _, hh, _⟩
  · simp [Value.ownBlock] at e
  · have e2 : g = b := by simpa [Value.ownBlock] using e
    subst e2
    obtain ⟨es, clock, hb, _⟩ := h'
    rw [hh] at hb
    cases hb
theorem Own.ne_ownC {E E' : TypeId} {q : IntKind} {B B' s : Nat} {w : World} {v v' : Value} {xs : List Int} {rs : List (List Value)} (h : Own E q B w v xs) (h' : OwnC E' s B' w v' rs) (hne : E ≠ E') (g : Nat) (hg : v'.ownBlock = some g) : v.ownBlock ≠ some g := by
  intro e
  rcases h.row.2 with ⟨rfl, _⟩ | ⟨g1, cap, cur, rfl, _, hh, _⟩
  · simp [Value.ownBlock] at e
  · rcases h'.row.2 with ⟨rfl, _⟩ | ⟨g2, cap2, cur2, rfl, _, hh2, _⟩
    · simp [Value.ownBlock] at hg
    · have e1 : g1 = g := by simpa [Value.ownBlock] using e
      have e2 : g2 = g := by simpa [Value.ownBlock] using hg
      subst e1 e2
      rw [hh] at hh2
      injection hh2 with hh2
      injection hh2 with _ ht
      exact hne ht

section
variable {B nb : Nat} {w w' : World} {S : Spc} {T : List Int} {V : List (Int × Int)}
theorem SpAt.grown {r : Option Nat} (h : SpAt B w S nb T V) (hg : w.grownBy w' r) (h1 : r ≠ some S.p) (h2 : r ≠ some S.bm) (h3 : ∀ g, S.gs.ownBlock = some g → r ≠ some g) : SpAt B w' S nb T V := by
  obtain ⟨D, hm, hD⟩ := h.map
  exact ⟨h.blk.grown hg (Ne.symm h1), ⟨D, hm.kept hg (Ne.symm h2), hD⟩, h.gl.grown hg h3, h.small, h.vs, h.nbl, h.hp, h.hb⟩
theorem SpAt.bl (h : SpAt B w S nb T V) (hb : Below w.heap.size w w') : SpAt B w' S nb T V :=
  h.grown (r := none) ⟨hb.os, hb.tape, hb.output, hb.size, fun k hk _ => hb.block k hk⟩ (by simp) (by simp) (by simp)
theorem SpAt.drew (h : SpAt B w S nb T V) : SpAt B w.drew S nb T V := h.bl (below_drewN _ _ 1)
theorem SpAt.alloc (h : SpAt B w S nb T V) (o : Obj) : SpAt B (w.alloc o) S nb T V := h.bl (Bl.alloc (Bl.refl _) o)
theorem SpAt.cells (h : SpAt B w S nb T V) : w.cell? ⟨S.p, 0, none⟩ = some (.int .i64 (T.length : Int)) ∧ w.cell? ⟨S.p, 1, none⟩ = some (.map (some S.bm)) ∧ w.cell? ⟨S.p, 2, none⟩ = some S.gs := ⟨h.blk.cell 0, h.blk.cell 1, h.blk.cell 2⟩
theorem SpAt.lt (h : SpAt B w S nb T V) : S.p < w.heap.size ∧ S.bm < w.heap.size := by
  obtain ⟨D, hm, _⟩ := h.map
  exact ⟨h.blk.lt, hm.lt⟩
theorem SpAt.neg (h : SpAt B w S nb T V) : S.p ≠ S.bm ∧ S.gs.ownBlock ≠ some S.p ∧ S.gs.ownBlock ≠ some S.bm := by
  obtain ⟨D, hm, _⟩ := h.map
  exact ⟨h.blk.ne_map hm, h.gl.ne_blk h.blk (by decide), h.gl.ne_map hm⟩
end

abbrev spv (S : Spc) : Value := .pointer (some ⟨S.p, 0, none⟩)

theorem hasElems_to {B nb : Nat} {w : World} {S : Spc} {T : List Int} {V : List (Int × Int)} (h : SpAt B w S nb T V) (off n : Int) (ho : off ≤ 9223372036854775807) :
    Calls Try.prog 17 #[spv S, .int .i64 off, .int .i64 n] w fun e w' => e = .returned (.bool (decide (0 ≤ off ∧ n ≤ (T.length : Int) - off))) ∧ w = w' := by
  obtain ⟨c0, _, _⟩ := h.cells
  have hs := h.small
  obtain ⟨z, hz⟩ : ∃ z, (T.length : Int) = z := ⟨_, rfl⟩
  have hz0 : 0 ≤ z ∧ z ≤ 16 := by omega
  rw [hz] at c0 ⊢
  clear h hs hz
  by_cases h0 : 0 ≤ off
  · have hw : IntKind.i64.wrap (z - off) = z - off := IntWalk.i64_in _ (by omega)
    by_cases h1 : n ≤ z - off
    · go_enter Try.func17, Try.ntmps17
      go_wp2_with fail
      go_ret
      exact ⟨by simp [h0, h1], rfl⟩
    · go_enter Try.func17, Try.ntmps17
      go_wp2_with fail
      go_ret
      exact ⟨by simp [h1], rfl⟩
  · go_enter Try.func17, Try.ntmps17
    go_wp2_with fail
    go_ret
    exact ⟨by simp; omega, rfl⟩
theorem hasElems_nil (off n : Int) (w : World) : Calls Try.prog 17 #[.pointer none, .int .i64 off, .int .i64 n] w fun e w' => e = .returned (.bool false) ∧ w = w' := by
  go_enter Try.func17, Try.ntmps17
  go_wp2_with fail
  go_ret
  exact ⟨rfl, rfl⟩
theorem hasGlobal_nil (i : Int) (w : World) : Calls Try.prog 19 #[.pointer none, .int .i64 i] w fun e w' => e = .returned (.bool false) ∧ w = w' := by
  go_enter Try.func19, Try.ntmps19
  go_wp2_with fail
  go_ret
  exact ⟨rfl, rfl⟩
theorem hasGlobal_to {B nb : Nat} {w : World} {S : Spc} {T : List Int} {V : List (Int × Int)} (h : SpAt B w S nb T V) (i : Int) :
    Calls Try.prog 19 #[spv S, .int .i64 i] w fun e w' => e = .returned (.bool (decide (0 ≤ i ∧ i < (V.length : Int)))) ∧ w = w' := by
  obtain ⟨_, _, c2⟩ := h.cells
  obtain ⟨ao, cap, e, hl, _, _⟩ := h.gl.shape
  have hv := h.vs
  rw [List.length_map] at e hl
  rw [e] at c2
  obtain ⟨n, hn⟩ : ∃ n, V.length = n := ⟨_, rfl⟩
  rw [hn] at c2 hv ⊢
  clear h hn e hl
  by_cases h0 : 0 ≤ i
  · by_cases h1 : i < (n : Int)
    · go_enter Try.func19, Try.ntmps19
      go_wp2_with fail
      go_ret
      exact ⟨by simp [h0, h1], rfl⟩
    · go_enter Try.func19, Try.ntmps19
      go_wp2_with fail
      go_ret
      exact ⟨by simp [h1], rfl⟩
  · go_enter Try.func19, Try.ntmps19
    go_wp2_with fail
    go_ret
    exact ⟨by simp; omega, rfl⟩
end Go.Proofs.Ythknmoaffapkhaa
