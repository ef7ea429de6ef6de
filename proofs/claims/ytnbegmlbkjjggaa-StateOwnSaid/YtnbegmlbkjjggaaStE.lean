/- state's laws: StateOwn's walk, over StSpec. Written by gen_stown.py. -/
import Derived.Test.YtnbegmlbkjjggaaStO
import Derived.Test.YtnbegmlbkjjggaaRegionTwo
namespace Go.Proofs.Ytnbegmlbkjjggaa
open Go.RowKit
set_option linter.unusedVariables false

/-- What the copies' region keeps: two blocks apart; the first copy lies in blocks A, the second in D, neither in one of the two. -/
structure OwnJ (S1 : St) (B : Nat) (a : Act) (w : World) : Prop where
  ap : Apart 4 5 a w
  cd : ∀ V1 : SV, a.tmps.getD 16 undef = .agg (V1.cells S1).toArray → ∃ A : Nat → Prop, (∀ b, A b → B ≤ b ∧ b < w.heap.size ∧ a.tmps.getD 4 undef ≠ .pointer (some ⟨b, 0, none⟩) ∧ a.tmps.getD 5 undef ≠ .pointer (some ⟨b, 0, none⟩)) ∧ Bx A w (StU V1 S1) ∧
    ∀ V2 : SV, a.tmps.getD 18 undef = .agg (V2.cells S1).toArray → ∃ D : Nat → Prop, (∀ b, D b → B ≤ b ∧ b < w.heap.size ∧ ¬ A b ∧ a.tmps.getD 4 undef ≠ .pointer (some ⟨b, 0, none⟩) ∧ a.tmps.getD 5 undef ≠ .pointer (some ⟨b, 0, none⟩)) ∧ Bx D w (StR V2 S1)
theorem OwnJ.grow {S1 : St} {B : Nat} {a a' : Act} {w w' : World} (h : OwnJ S1 B a w) (hb : Below w.heap.size w w') (hap : Apart 4 5 a' w')
    (h4 : ∀ b, b < w.heap.size → a'.tmps.getD 4 undef = .pointer (some ⟨b, 0, none⟩) → a.tmps.getD 4 undef = .pointer (some ⟨b, 0, none⟩)) (h5 : ∀ b, b < w.heap.size → a'.tmps.getD 5 undef = .pointer (some ⟨b, 0, none⟩) → a.tmps.getD 5 undef = .pointer (some ⟨b, 0, none⟩))
    (h16 : a'.tmps.getD 16 undef = a.tmps.getD 16 undef) (h18 : a'.tmps.getD 18 undef = a.tmps.getD 18 undef) : OwnJ S1 B a' w' := by
  refine ⟨hap, fun V1 hV1 => ?_⟩
  rw [h16] at hV1
  obtain ⟨A, hA, hx, hD⟩ := h.cd V1 hV1
  refine ⟨A, fun b hb' => ?_, hx.keep fun b hb' => hb.block b (hA b hb').2.1, fun V2 hV2 => ?_⟩
  · obtain ⟨q1, q2, q3, q4⟩ := hA b hb'
    exact ⟨q1, Nat.lt_of_lt_of_le q2 hb.size, fun e => q3 (h4 b q2 e), fun e => q4 (h5 b q2 e)⟩
  · rw [h18] at hV2
    obtain ⟨D, hD1, hD2⟩ := hD V2 hV2
    refine ⟨D, fun b hb' => ?_, hD2.keep fun b hb' => hb.block b (hD1 b hb').2.1⟩
    obtain ⟨q1, q2, q3, q4, q5⟩ := hD1 b hb'
    exact ⟨q1, Nat.lt_of_lt_of_le q2 hb.size, q3, fun e => q4 (h4 b q2 e), fun e => q5 (h5 b q2 e)⟩
theorem OwnJ.keep {S1 : St} {B : Nat} {a : Act} {w w' : World} (h : OwnJ S1 B a w) (hb : Below w.heap.size w w') (d : Option Tmp) (v : Value) (h4 : d ≠ some 4) (h5 : d ≠ some 5) (h16 : d ≠ some 16) (h18 : d ≠ some 18) : OwnJ S1 B (a.put d v) w' :=
  h.grow hb (h.ap.keep d v h4 h5 hb.size) (fun b _ e => by rwa [put_other a d v 4 h4] at e) (fun b _ e => by rwa [put_other a d v 5 h5] at e) (put_other a d v 16 h16) (put_other a d v 18 h18)
theorem OwnJ.box4 {S1 : St} {B : Nat} {a : Act} {w : World} (h : OwnJ S1 B a w) (o : Obj) : OwnJ S1 B (a.put (some 4) (.pointer (some ⟨w.heap.size, 0, none⟩))) (w.alloc o) :=
  h.grow (Bl.alloc (Bl.refl w) o) (h.ap.left (by decide) (by simp)) (fun b hb e => by
    rcases put_either a 4 (.pointer (some ⟨w.heap.size, 0, none⟩)) with e2 | e2
    · rw [e2] at e; cases e; exact absurd hb (Nat.lt_irrefl _)
    · rwa [e2] at e) (fun b _ e => by rwa [put_other a (some 4) _ 5 (by decide)] at e) (put_other a (some 4) _ 16 (by decide)) (put_other a (some 4) _ 18 (by decide))
theorem OwnJ.box5 {S1 : St} {B : Nat} {a : Act} {w : World} (h : OwnJ S1 B a w) (o : Obj) : OwnJ S1 B (a.put (some 5) (.pointer (some ⟨w.heap.size, 0, none⟩))) (w.alloc o) :=
  h.grow (Bl.alloc (Bl.refl w) o) (h.ap.right (by decide) (by simp)) (fun b _ e => by rwa [put_other a (some 5) _ 4 (by decide)] at e) (fun b hb e => by
    rcases put_either a 5 (.pointer (some ⟨w.heap.size, 0, none⟩)) with e2 | e2
    · rw [e2] at e; cases e; exact absurd hb (Nat.lt_irrefl _)
    · rwa [e2] at e) (put_other a (some 5) _ 16 (by decide)) (put_other a (some 5) _ 18 (by decide))
theorem OwnJ.first {S1 : St} {B : Nat} {a : Act} {w w' : World} (h : OwnJ S1 B a w) (hB : B ≤ w.heap.size) (h18 : a.tmps.getD 18 undef = undef) (h16 : a.tmps.getD 16 undef = undef) (hb : Below w.heap.size w w') (V : SV) (hx : Bx (fun b => w.heap.size ≤ b ∧ b < w'.heap.size) w' (StU V S1)) : OwnJ S1 B (a.put (some 16) (.agg (V.cells S1).toArray)) w' := by
  have e4 := put_other a (some 16) (.agg (V.cells S1).toArray) 4 (by decide)
  have e5 := put_other a (some 16) (.agg (V.cells S1).toArray) 5 (by decide)
  have e18 := put_other a (some 16) (.agg (V.cells S1).toArray) 18 (by decide)
  refine ⟨h.ap.keep _ _ (by decide) (by decide) hb.size, fun V1 hV1 => ⟨fun b => w.heap.size ≤ b ∧ b < w'.heap.size, fun b hb' => ⟨Nat.le_trans hB hb'.1, hb'.2, fun e => ?_, fun e => ?_⟩, ?_, fun V2 hV2 => ?_⟩⟩
  · rw [e4] at e; have := h.ap.l b e; omega
  · rw [e5] at e; have := h.ap.r b e; omega
  · rcases put_either a 16 (.agg (V.cells S1).toArray) with e2 | e2
    · rw [e2] at hV1
      have : V = V1 := by
        obtain ⟨a1, a2, a3, a4, a5, a6⟩ := V
        obtain ⟨b1, b2, b3, b4, b5, b6⟩ := V1
        simp [SV.cells] at hV1
        simp_all
      rw [← this]
      exact hx
    · rw [e2, h16] at hV1
      cases hV1
  · rw [e18, h18] at hV2
    cases hV2
theorem OwnJ.second {S1 : St} {B : Nat} {a : Act} {w w' : World} (h : OwnJ S1 B a w) (hB : B ≤ w.heap.size) (h18 : a.tmps.getD 18 undef = undef) (hb : Below w.heap.size w w') (V : SV) (hx : Bx (fun b => w.heap.size ≤ b ∧ b < w'.heap.size) w' (StR V S1)) : OwnJ S1 B (a.put (some 18) (.agg (V.cells S1).toArray)) w' := by
  have e4 := put_other a (some 18) (.agg (V.cells S1).toArray) 4 (by decide)
  have e5 := put_other a (some 18) (.agg (V.cells S1).toArray) 5 (by decide)
  have e16 := put_other a (some 18) (.agg (V.cells S1).toArray) 16 (by decide)
  refine ⟨h.ap.keep _ _ (by decide) (by decide) hb.size, fun V1 hV1 => ?_⟩
  rw [e16] at hV1
  obtain ⟨A, hA, hxA, _⟩ := h.cd V1 hV1
  refine ⟨A, fun b hb' => ?_, hxA.keep fun b hb' => hb.block b (hA b hb').2.1, fun V2 hV2 => ⟨fun b => w.heap.size ≤ b ∧ b < w'.heap.size, fun b hb' => ⟨Nat.le_trans hB hb'.1, hb'.2, fun h2 => by have := (hA b h2).2.1; omega, fun e => ?_, fun e => ?_⟩, ?_⟩⟩
  · obtain ⟨q1, q2, q3, q4⟩ := hA b hb'
    rw [e4, e5]
    exact ⟨q1, Nat.lt_of_lt_of_le q2 hb.size, q3, q4⟩
  · rw [e4] at e; have := h.ap.l b e; omega
  · rw [e5] at e; have := h.ap.r b e; omega
  · rcases put_either a 18 (.agg (V.cells S1).toArray) with e2 | e2
    · rw [e2] at hV2
      have : V = V2 := by
        obtain ⟨a1, a2, a3, a4, a5, a6⟩ := V
        obtain ⟨b1, b2, b3, b4, b5, b6⟩ := V2
        simp [SV.cells] at hV2
        simp_all
      rw [← this]
      exact hx
    · rw [e2, h18] at hV2
      cases hV2
def IsSv (S1 : St) : Value → World → Prop := fun v _ => ∃ V : SV, v = .agg (V.cells S1).toArray
theorem Stays.sv (S1 : St) : Stays (IsSv S1) := fun _ _ _ h _ => h

/-- What stores of numbers into cells of numbers, all in blocks of A, leave of the world w. -/
structure Pk (A : Nat → Prop) (K : Nat) (w w' : World) : Prop where
  b : ∀ b, ¬ A b → w'.heap[b]? = w.heap[b]?
  k : Below K w w'
  c : ∀ (a : Addr) (v : Value), w.cell? a = some v → w'.cell? a = some v ∨ ((∃ z : Int, v = .int .i64 z) ∧ ∃ z : Int, w'.cell? a = some (.int .i64 z))
  f : ∀ a, w'.frozen? a = w.frozen? a
theorem Pk.refl (A : Nat → Prop) (K : Nat) (w : World) : Pk A K w w := ⟨fun _ _ => rfl, Below.refl _ _, fun _ _ h => .inl h, fun _ => rfl⟩
theorem Pk.int {A : Nat → Prop} {K : Nat} {w w' : World} (h : Pk A K w w') {a : Addr} {z : Int} (hc : w.cell? a = some (.int .i64 z)) : ∃ z : Int, w'.cell? a = some (.int .i64 z) := by
  rcases h.c a _ hc with e | ⟨_, e⟩
  · exact ⟨z, e⟩
  · exact e
theorem Pk.slice {A : Nat → Prop} {K : Nat} {w w' : World} (h : Pk A K w w') {a : Addr} {o : Option Addr} {n k : Nat} (hc : w.cell? a = some (.slice o n k)) : w'.cell? a = some (.slice o n k) := by
  rcases h.c a _ hc with e | ⟨⟨z, e⟩, _⟩
  · exact e
  · cases e
theorem Pk.step {A : Nat → Prop} {K : Nat} {w w' : World} (h : Pk A K w w') {a : Addr} {y : Int} (hA : A a.block) (hK : K ≤ a.block) (hc : w'.cell? a = some (.int .i64 y)) (x : Int) : Pk A K w (w'.setCell a (.int .i64 x)) := by
  refine ⟨fun b hb => (Below.heap_setCell w' a _ b (fun e => hb (e ▸ hA))).trans (h.b b hb), h.k.setCell hK _, fun c v hv => ?_, fun c => (World.frozen?_setCell ..).trans (h.f c)⟩
  rcases h.c c v hv with e | ⟨e1, z, e⟩
  · rcases cell_poke (x := x) hc e with e2 | ⟨e2, e3⟩
    · exact .inl e2
    · exact .inr ⟨e2, x, e3⟩
  · rcases cell_poke (x := x) hc e with e2 | ⟨e2, e3⟩
    · exact .inr ⟨e1, z, e2⟩
    · exact .inr ⟨e1, x, e3⟩
/-- A frame that may be written: all its cells, its rows' cells. -/
theorem StU.fr2 {V : SV} {S : St} {w : World} (h : StU V S w) {j : Nat} (hj : j < V.fn) : ∃ b off lo ln lc bo bn bc, V.fo = some ⟨b, off, none⟩ ∧ (∃ y, w.cell? ⟨b, off + j * 5 + 1, none⟩ = some (.int .i64 y)) ∧ w.cell? ⟨b, off + j * 5 + 2, none⟩ = some (.slice lo ln lc) ∧ w.cell? ⟨b, off + j * 5 + 4, none⟩ = some (.slice bo bn bc) ∧ w.frozen? ⟨b, off + j * 5 + 1, none⟩ = false ∧
    ln ≤ 9223372036854775807 ∧ bn ≤ 9223372036854775807 ∧
    (∀ i, i < ln → ∃ b2 off2, lo = some ⟨b2, off2, none⟩ ∧ (∃ y, w.cell? ⟨b2, off2 + i * 2 + 1, none⟩ = some (.int .i64 y)) ∧ w.frozen? ⟨b2, off2 + i * 2 + 1, none⟩ = false) ∧
    (∀ i, i < bn → ∃ b2 off2, bo = some ⟨b2, off2, none⟩ ∧ (∃ y, w.cell? ⟨b2, off2 + i * 2, none⟩ = some (.int .i64 y)) ∧ w.frozen? ⟨b2, off2 + i * 2, none⟩ = false) := by
  have hl : j < S.fs.length := by rw [h.f.len]; exact hj
  obtain ⟨b, off, cs, e, hl5, ⟨a1, n1, c1, a2, n2, c2, rfl, r1, r2, u1, u2, _⟩, hc⟩ := h.f.cell j _ (List.getElem?_eq_getElem hl)
  refine ⟨b, off, a1, n1, c1, a2, n2, c2, e, ⟨_, hc 1 _ rfl⟩, hc 2 _ rfl, hc 4 _ rfl, ?_, r1.cap63.1, r2.cap63.1, fun i hi => ?_, fun i hi => ?_⟩
  · have := h.uf b off e (j * 5 + 1) (by omega)
    rwa [← Nat.add_assoc] at this
  · obtain ⟨b2, o2, x, y, e2, _, _, h2, _⟩ := r1.at2 hi
    refine ⟨b2, o2, e2, ⟨y, h2⟩, ?_⟩
    have := u1 b2 o2 e2 (i * 2 + 1) (by omega)
    rwa [← Nat.add_assoc] at this
  · obtain ⟨b2, o2, x, y, e2, _, h2, _⟩ := r2.at2 hi
    exact ⟨b2, o2, e2, ⟨x, h2⟩, u2 b2 o2 e2 (i * 2) (by omega)⟩

set_option maxRecDepth 100000 in
set_option maxHeartbeats 8000000 in
theorem stateOwn_walk (X : StSpec) (V : SV) (S : St) (w : World) (hst : StR V S w) :
    Calls Try.prog 5 #[.agg (V.cells S).toArray] w fun e w' => e = .returned (.bool true) ∧ Below w.heap.size w w' := by
  obtain ⟨vo, vn, vc, fo, fn, fc⟩ := V
  obtain ⟨vs, fs, sa⟩ := S
  simp only [SV.cells]
  obtain ⟨w0, hw0⟩ : ∃ w0, w.alloc (.cells #[.slice vo vn vc, .slice fo fn fc, .int .i64 sa] 25) = w0 := ⟨_, rfl⟩
  obtain ⟨p, hp⟩ : ∃ p, w.heap.size = p := ⟨_, rfl⟩
  have hb0 : Below w.heap.size w w0 := by rw [← hw0]; exact Bl.alloc (Bl.refl _) _
  have hx0 : Cel w0 p [.slice vo vn vc, .slice fo fn fc, .int .i64 sa] := by rw [← hw0, ← hp]; exact Cel.new w [.slice vo vn vc, .slice fo fn fc, .int .i64 sa] 25
  have hz0 : w0.heap.size = p + 1 := by rw [← hw0]; simp [hp]
  have hs0 := hst.below hb0
  have HX0 := hid hx0; have HZ0 := hid hz0; have HW0 := hid hw0; have HP := hid hp; have HBB := hid hb0; have HS0 := hid hs0
  have HPP : Hid (w.heap.size ≤ p) := hid (Nat.le_of_eq hp)
  clear hst hb0 hx0 hz0 hs0 hw0 hp
  go_enter Try.func5, Try.ntmps5
  go_wp2_with fail
  rw [HW0.out]
  refine (begun_to X w0).mono ?_
  rintro e wb ⟨rfl, hb⟩
  have HCS := hid (HX0.out.below (Nat.succ_pos _) hb)
  have HST := hid (HS0.out.below hb)
  have HB0 := hid (Bl.step HBB.out hb)
  have HPW : Hid (p + 1 ≤ wb.heap.size) := hid (by have := hb.size; rw [HZ0.out] at this; exact this)
  clear hb HX0 HS0 HBB HW0 HZ0
  have a0 := HCS.out.cell 0 _ rfl
  have a1 := HCS.out.cell 1 _ rfl
  have a2 := HCS.out.cell 2 _ rfl
  try rw [HP.out]
  go_wp2_with fail
  refine (cut_to ⟨vo, vn, vc, fo, fn, fc⟩ ⟨vs, fs, sa⟩ wb HST.out).mono ?_
  rintro e w1 ⟨⟨xo, xn, xc, yo, yn, yc⟩, rfl, hbx, hb1⟩
  simp only [SV.cells]
  have hp1 : p < w1.heap.size := Nat.lt_of_lt_of_le HPW.out hb1.size
  have hcs := HCS.out.below (Nat.succ_pos _) hb1
  obtain ⟨w2, hw2⟩ : ∃ w2, (((w1.setCell ⟨p, 0, none⟩ (.slice xo xn xc)).setCell ⟨p, 1, none⟩ (.slice yo yn yc)).setCell ⟨p, 2, none⟩ (.int .i64 (cutS ⟨vs, fs, sa⟩).asks)) = w2 := ⟨_, rfl⟩
  have hg : w1.grownBy w2 (some p) := by rw [← hw2]; exact gr_set (gr_set (gr_set (gr_refl _ _) 0 _) 1 _) 2 _
  have HCA : Hid (Cel w2 p [.slice xo xn xc, .slice yo yn yc, .int .i64 (cutS ⟨vs, fs, sa⟩).asks]) := hid (hw2 ▸ (((hcs.set 0 (.slice xo xn xc) (by simp)).set 1 (.slice yo yn yc) (by simp)).set 2 (.int .i64 (cutS ⟨vs, fs, sa⟩).asks) (by simp)))
  have HSA : Hid (StR ⟨xo, xn, xc, yo, yn, yc⟩ (cutS ⟨vs, fs, sa⟩) w2) := hid (hbx w2 fun b hb => hg.block b hb.2 (fun e => by have e2 : b = p := (by simpa using e); have := HPW.out; omega))
  have HBL : Hid (Below w.heap.size w w2) := hid (gr_blK (Bl.step HB0.out hb1) hg (Nat.le_trans HB0.out.size hb1.size) HPP.out)
  have HW2 := hid hw2
  clear a0 a1 a2
  have a0 := hcs.cell 0 _ rfl
  have a1 := hcs.cell 1 _ rfl
  have a2 := hcs.cell 2 _ rfl
  have fa0 := hcs.fro 0 _ rfl
  have fa1 := hcs.fro 1 _ rfl
  have fa2 := hcs.fro 2 _ rfl
  clear hbx hcs hw2 hg hb1
  go_upto_region 5 with fail
  clear a0 a1 a2 fa0 fa1 fa2
  rw [HW2.out]
  clear HW2
  have hp2 : p < w2.heap.size := HCA.out.lt (Nat.succ_pos _)
  obtain ⟨S1, hS1⟩ : ∃ S1, cutS ⟨vs, fs, sa⟩ = S1 := ⟨_, rfl⟩
  rw [hS1] at HCA HSA ⊢
  have HTM : Hid (tameS S1) := hid (by rw [← hS1]; exact tame_cut _)
  clear hS1 hp1
  have a0 := HCA.out.cell 0 _ rfl
  have a1 := HCA.out.cell 1 _ rfl
  have a2 := HCA.out.cell 2 _ rfl
  go_wp2_with fail
  refine wp_region_below_J (OwnJ S1 w2.heap.size) 6 (by kernel_rfl) [Is (.agg #[.slice xo xn xc, .slice yo yn yc, .int .i64 S1.asks]), IsSv S1, Is (.agg #[.slice xo xn xc, .slice yo yn yc, .int .i64 S1.asks]), IsSv S1, IsBq 25 [.slice none 0 0, .slice none 0 0, .int .i64 0] w2.heap.size, IsBq 25 [.slice none 0 0, .slice none 0 0, .int .i64 0] w2.heap.size] _ rfl (by kernel_rfl) rfl (by kernel_rfl) ?hjA ?hj0A ?hopA ?hstA ?hendA
  case hj0A => exact ⟨⟨fun q hq => (by cases hq), fun q hq => (by cases hq), fun q hq => (by cases hq)⟩, fun V1 hV1 => (by cases hV1)⟩
  case hjA =>
    intro i hi o ho a w9 hC hJ hfr hfs hw
    have hs9 := hC.size
    match i, hi with
    | 0, _ =>
      obtain rfl := Option.some.inj ho
      refine wpOp_mono ?_ hw
      rintro a' w' ⟨v, rfl, h1, h2⟩
      exact ⟨v, rfl, h1, h2, hJ.keep h2 _ _ (by decide) (by decide) (by decide) (by decide)⟩
    | 1, _ =>
      obtain rfl := Option.some.inj ho
      have h15 : a.tmps.getD 15 undef = .agg #[.slice xo xn xc, .slice yo yn yc, .int .i64 S1.asks] := hfs 0 (by decide)
      refine wpOp_call (f := 18) (args := #[.agg #[.slice xo xn xc, .slice yo yn yc, .int .i64 S1.asks]]) (R := fun v w' => ∃ V : SV, v = .agg (V.cells S1).toArray ∧ Bx (fun b => w9.heap.size ≤ b ∧ b < w'.heap.size) w' (StU V S1) ∧ Below w9.heap.size w9 w') rfl rfl rfl (by go_simp) ?_ ?_
      · refine (X.copy_to ⟨xo, xn, xc, yo, yn, yc⟩ S1 w9 HTM.out (HSA.out.below hC)).mono ?_
        rintro e w' ⟨V', rfl, hx, hb⟩
        exact ⟨_, rfl, V', rfl, hx, hb⟩
      · rintro v w' ⟨V', rfl, hx, hb⟩
        exact ⟨_, rfl, ⟨V', rfl⟩, hb, hJ.first hs9 ((hfr 18 (by kernel_rfl)).trans rfl) ((hfr 16 (by kernel_rfl)).trans rfl) hb V' hx⟩
    | 2, _ =>
      obtain rfl := Option.some.inj ho
      refine wpOp_mono ?_ hw
      rintro a' w' ⟨v, rfl, h1, h2⟩
      exact ⟨v, rfl, h1, h2, hJ.keep h2 _ _ (by decide) (by decide) (by decide) (by decide)⟩
    | 3, _ =>
      obtain rfl := Option.some.inj ho
      have h17 : a.tmps.getD 17 undef = .agg #[.slice xo xn xc, .slice yo yn yc, .int .i64 S1.asks] := hfs 2 (by decide)
      refine wpOp_call (f := 18) (args := #[.agg #[.slice xo xn xc, .slice yo yn yc, .int .i64 S1.asks]]) (R := fun v w' => ∃ V : SV, v = .agg (V.cells S1).toArray ∧ Bx (fun b => w9.heap.size ≤ b ∧ b < w'.heap.size) w' (StU V S1) ∧ Below w9.heap.size w9 w') rfl rfl rfl (by go_simp) ?_ ?_
      · refine (X.copy_to ⟨xo, xn, xc, yo, yn, yc⟩ S1 w9 HTM.out (HSA.out.below hC)).mono ?_
        rintro e w' ⟨V', rfl, hx, hb⟩
        exact ⟨_, rfl, V', rfl, hx, hb⟩
      · rintro v w' ⟨V', rfl, hx, hb⟩
        exact ⟨_, rfl, ⟨V', rfl⟩, hb, hJ.second hs9 ((hfr 18 (by kernel_rfl)).trans rfl) hb V' (hx.imp fun w h => h.r)⟩
    | 4, _ =>
      obtain rfl := Option.some.inj ho
      refine wpOp_alloc (ob := .cells #[.slice none 0 0, .slice none 0 0, .int .i64 0] 25) (s := 4) rfl rfl rfl (by go_simp) ?_
      exact ⟨_, rfl, ⟨_, rfl, hs9, heap_alloc_new w9 _⟩, Bl.alloc (Bl.refl _) _, hJ.box4 _⟩
    | 5, _ =>
      obtain rfl := Option.some.inj ho
      refine wpOp_alloc (ob := .cells #[.slice none 0 0, .slice none 0 0, .int .i64 0] 25) (s := 5) rfl rfl rfl (by go_simp) ?_
      exact ⟨_, rfl, ⟨_, rfl, hs9, heap_alloc_new w9 _⟩, Bl.alloc (Bl.refl _) _, hJ.box5 _⟩
  case hopA =>
    refine ⟨rq _ _ _ [(1, .pointer (some ⟨p, 0, none⟩))] ⟨⟨by kernel_rfl, rfl⟩, trivial⟩ ?_, ?_⟩
    · intro a w1 hC e1
      refine Or.inl ⟨.agg #[.slice xo xn xc, .slice yo yn yc, .int .i64 S1.asks], ?_, rfl⟩
      have f0 := (HCA.out.below (Nat.succ_pos _) hC).cell 0 _ rfl
      have f1 := (HCA.out.below (Nat.succ_pos _) hC).cell 1 _ rfl
      have f2 := (HCA.out.below (Nat.succ_pos _) hC).cell 2 _ rfl
      go_simp
    refine ⟨rq _ _ _ [] trivial ?_, ?_⟩
    · intro a w1 hC  (h0 : a.tmps.getD 15 undef = _)
      refine Or.inr (Or.inl ⟨18, #[.agg #[.slice xo xn xc, .slice yo yn yc, .int .i64 S1.asks]], ?_, ?_⟩)
      · go_simp
      · refine (X.copy_to ⟨xo, xn, xc, yo, yn, yc⟩ S1 w1 HTM.out (HSA.out.below hC)).mono ?_
        rintro e w2 ⟨V', rfl, _, hbel⟩
        exact ⟨_, rfl, ⟨V', rfl⟩, hbel⟩
    refine ⟨rq _ _ _ [(1, .pointer (some ⟨p, 0, none⟩))] ⟨⟨by kernel_rfl, rfl⟩, trivial⟩ ?_, ?_⟩
    · intro a w1 hC e1
      refine Or.inl ⟨.agg #[.slice xo xn xc, .slice yo yn yc, .int .i64 S1.asks], ?_, rfl⟩
      have f0 := (HCA.out.below (Nat.succ_pos _) hC).cell 0 _ rfl
      have f1 := (HCA.out.below (Nat.succ_pos _) hC).cell 1 _ rfl
      have f2 := (HCA.out.below (Nat.succ_pos _) hC).cell 2 _ rfl
      go_simp
    refine ⟨rq _ _ _ [] trivial ?_, ?_⟩
    · intro a w1 hC  (h2 : a.tmps.getD 17 undef = _) h1
      refine Or.inr (Or.inl ⟨18, #[.agg #[.slice xo xn xc, .slice yo yn yc, .int .i64 S1.asks]], ?_, ?_⟩)
      · go_simp
      · refine (X.copy_to ⟨xo, xn, xc, yo, yn, yc⟩ S1 w1 HTM.out (HSA.out.below hC)).mono ?_
        rintro e w2 ⟨V', rfl, _, hbel⟩
        exact ⟨_, rfl, ⟨V', rfl⟩, hbel⟩
    refine ⟨rq _ _ _ [] trivial ?_, ?_⟩
    · intro a w1 hC
      refine Or.inr (Or.inr ⟨.pointer (some ⟨w1.heap.size, 0, none⟩), w1.alloc (.cells #[.slice none 0 0, .slice none 0 0, .int .i64 0] 25), ?_, ⟨_, rfl, hC.size, heap_alloc_new w1 _⟩, Bl.alloc (Bl.refl _) _⟩)
      go_simp
    refine ⟨rq _ _ _ [] trivial ?_, ?_⟩
    · intro a w1 hC
      refine Or.inr (Or.inr ⟨.pointer (some ⟨w1.heap.size, 0, none⟩), w1.alloc (.cells #[.slice none 0 0, .slice none 0 0, .int .i64 0] 25), ?_, ⟨_, rfl, hC.size, heap_alloc_new w1 _⟩, Bl.alloc (Bl.refl _) _⟩)
      go_simp
    exact trivial
  case hstA => repeat (first | exact trivial | refine ⟨Stays.is _, ?_⟩ | refine ⟨Stays.sv _, ?_⟩ | refine ⟨Stays.bq _ _ _, ?_⟩)
  case hendA =>
    intro w1 hC
    rintro _ rfl
    intro x1 h1
    rintro _ rfl
    intro x3 h3
    intro x4 h4
    intro x5 h5
    obtain ⟨⟨co, cn, cc, eo, en, ec⟩, rfl⟩ := h1
    obtain ⟨⟨ro, rn, rc, so, sn, sc⟩, rfl⟩ := h3
    obtain ⟨qc, rfl, hqc, hzc⟩ := h4
    obtain ⟨qd, rfl, hqd, hzd⟩ := h5
    simp only [SV.cells]
    simp only [Ends, Act.put, List.setIfInBounds_toArray, List.set_cons_succ, List.set_cons_zero, List.drop_succ_cons, List.drop_zero]
    intro hJ
    have hne : qd ≠ qc := fun e => hJ.ap.ne qc rfl (by rw [← e]; rfl)
    obtain ⟨A, hA, hxA, hD⟩ := hJ.cd ⟨co, cn, cc, eo, en, ec⟩ rfl
    obtain ⟨D, hD1, hxD⟩ := hD ⟨ro, rn, rc, so, sn, sc⟩ rfl
    have hA4 : ¬ A qc := fun h => (hA qc h).2.2.1 rfl
    have hA5 : ¬ A qd := fun h => (hA qd h).2.2.2 rfl
    have hD4 : ¬ D qc := fun h => (hD1 qc h).2.2.2.1 rfl
    have hD5 : ¬ D qd := fun h => (hD1 qd h).2.2.2.2 rfl
    have hDA : ∀ b, D b → ¬ A b := fun b h => (hD1 b h).2.2.1
    have hAB : ∀ b, A b → w2.heap.size ≤ b := fun b h => (hA b h).1
    clear hJ hD hA hD1
    have hs1 := hC.size
    have hcz := Cel.of_heap hzc
    have hdz := Cel.of_heap hzd
    have hc1 : qc < w1.heap.size := (Array.getElem?_eq_some_iff.1 hzc).1
    have hd1 : qd < w1.heap.size := (Array.getElem?_eq_some_iff.1 hzd).1
    obtain ⟨w3, hw3⟩ : ∃ w3, ((((((w1.setCell ⟨qc, 0, none⟩ (.slice co cn cc)).setCell ⟨qc, 1, none⟩ (.slice eo en ec)).setCell ⟨qc, 2, none⟩ (.int .i64 S1.asks)).setCell ⟨qd, 0, none⟩ (.slice ro rn rc)).setCell ⟨qd, 1, none⟩ (.slice so sn sc)).setCell ⟨qd, 2, none⟩ (.int .i64 S1.asks)) = w3 := ⟨_, rfl⟩
    obtain ⟨wm, hwm⟩ : ∃ wm, (((w1.setCell ⟨qc, 0, none⟩ (.slice co cn cc)).setCell ⟨qc, 1, none⟩ (.slice eo en ec)).setCell ⟨qc, 2, none⟩ (.int .i64 S1.asks)) = wm := ⟨_, rfl⟩
    have hg1 : w1.grownBy wm (some qc) := by rw [← hwm]; exact (gr_set (gr_set (gr_set (gr_refl _ _) 0 _) 1 _) 2 _)
    have hg2 : wm.grownBy w3 (some qd) := by rw [← hw3, hwm]; exact (gr_set (gr_set (gr_set (gr_refl _ _) 0 _) 1 _) 2 _)
    have hb1 : wm.heap[qd]? = w1.heap[qd]? := hg1.block _ hd1 (by simpa using hne)
    have hb2 : w3.heap[qc]? = wm.heap[qc]? := hg2.block _ (Nat.lt_of_lt_of_le hc1 hg1.size) (by simpa using fun e => hne e.symm)
    have hca : Cel w3 qc [.slice co cn cc, .slice eo en ec, .int .i64 S1.asks] := (hwm ▸ (((hcz.set 0 (.slice co cn cc) (by simp)).set 1 (.slice eo en ec) (by simp)).set 2 (.int .i64 S1.asks) (by simp)) : Cel wm qc [.slice co cn cc, .slice eo en ec, .int .i64 S1.asks]).same hb2
    have hcb : Cel w3 qd [.slice ro rn rc, .slice so sn sc, .int .i64 S1.asks] := by
      have h := ((((hdz.same hb1).set 0 (.slice ro rn rc) (by simp)).set 1 (.slice so sn sc) (by simp)).set 2 (.int .i64 S1.asks) (by simp))
      rw [← hw3, hwm]
      exact h
    have hsz : w3.heap.size = w1.heap.size := by rw [← hw3]; simp
    have hkeep : ∀ b, b ≠ qc → b ≠ qd → b < w1.heap.size → w3.heap[b]? = w1.heap[b]? := fun b h1 h2 h3 => (hg2.block b (Nat.lt_of_lt_of_le h3 hg1.size) (fun e => h2 (by simpa using e))).trans (hg1.block b h3 (fun e => h1 (by simpa using e)))
    have HXA : Hid (StU ⟨co, cn, cc, eo, en, ec⟩ S1 w3 ∧ Bx A w3 (StU ⟨co, cn, cc, eo, en, ec⟩ S1)) := hid (by
      have h := hxA.keep (w' := w3) fun b hb => by
        rcases Nat.lt_or_ge b w1.heap.size with h3 | h3
        · exact hkeep b (fun e => hA4 (e ▸ hb)) (fun e => hA5 (e ▸ hb)) h3
        · rw [Array.getElem?_eq_none h3, Array.getElem?_eq_none (by rw [hsz]; exact h3)]
      exact ⟨h.now, h⟩)
    have HXD : Hid (Bx D w3 (StR ⟨ro, rn, rc, so, sn, sc⟩ S1)) := hid (hxD.keep (w' := w3) fun b hb => by
        rcases Nat.lt_or_ge b w1.heap.size with h3 | h3
        · exact hkeep b (fun e => hD4 (e ▸ hb)) (fun e => hD5 (e ▸ hb)) h3
        · rw [Array.getElem?_eq_none h3, Array.getElem?_eq_none (by rw [hsz]; exact h3)])
    have H23 : Hid (Below w2.heap.size w2 w3) := hid (gr_blK (gr_blK hC hg1 hs1 hqc) hg2 (Nat.le_trans hs1 hg1.size) hqd)
    have HW3 := hid hw3
    have HCc := hid hca; have HCd := hid hcb
    have hq3 : qc < w3.heap.size ∧ qd < w3.heap.size := by omega
    have hp3 : p < w3.heap.size := by omega
    have a0 := hcz.cell 0 _ rfl
    have fa0 := hcz.fro 0 _ rfl
    have b0 := hdz.cell 0 _ rfl
    have fb0 := hdz.fro 0 _ rfl
    have a1 := hcz.cell 1 _ rfl
    have fa1 := hcz.fro 1 _ rfl
    have b1 := hdz.cell 1 _ rfl
    have fb1 := hdz.fro 1 _ rfl
    have a2 := hcz.cell 2 _ rfl
    have fa2 := hcz.fro 2 _ rfl
    have b2 := hdz.cell 2 _ rfl
    have fb2 := hdz.fro 2 _ rfl
    clear hxA hxD hcz hdz hw3 hwm hg1 hg2 hb1 hb2 hca hcb hkeep hsz hC hzc hzd hs1 hD4 hD5
    go_upto_region 6 with fail
    clear a0 a1 a2 fa0 fa1 fa2 b0 b1 b2 fb0 fb1 fb2 hc1 hd1
    rw [HW3.out]
    clear HW3
    have hcn63 := HXA.out.1.v.cap63.1
    have hen63 := HXA.out.1.f.cap63.1
    simp only at hcn63 hen63
    have q0 := HCc.out.cell 0 _ rfl
    go_wp2_with fail
    go_loopw [22] (fun i wr => ∃ k : Nat, k ≤ cn ∧ i = .int .i64 k ∧ Hid (Pk A w2.heap.size w3 wr)) (fun i _ => cn - (intOf i).toNat)
    case atStart => exact ⟨0, Nat.zero_le _, rfl, hid (Pk.refl _ _ _)⟩
    case round =>
      clear q0
      obtain ⟨k, hkn, rfl, HPK⟩ := hrel
      have HCr := hid (HCc.out.same (HPK.out.b qc hA4))
      by_cases hk : k < cn
      · obtain ⟨b, off, he, _, ⟨y, h2⟩, _, z2⟩ := HXA.out.1.va hk
        simp only at he
        subst he
        have hbk : A b := Bx.block (a := ⟨b, off + k * 2 + 1, none⟩) HXA.out.2 fun w' h => by
          obtain ⟨b1, o1, e1, _, h1, _⟩ := h.va hk
          simp only at e1
          cases e1
          exact h1
        obtain ⟨z, hz⟩ := HPK.out.int h2
        have hf : wr.frozen? ⟨b, off + k * 2 + 1, none⟩ = false := (HPK.out.f _).trans z2
        have HNX := hid fun x => HPK.out.step (a := ⟨b, off + k * 2 + 1, none⟩) hbk (hAB b hbk) hz x
        have q0 := HCr.out.cell 0 _ rfl
        clear h2 z2
        go_wp2_with fail
        go_roundw
        case rel => exact ⟨k + 1, by omega, by go_num, hid (HNX.out _)⟩
        case measure => simp [intOf]; omega
      · obtain rfl : k = cn := by omega
        have q1 := HCr.out.cell 1 _ rfl
        go_wp2_with fail
        obtain ⟨wa, hwa⟩ : ∃ wa : World, wa = wr := ⟨_, rfl⟩
        subst hwa
        clear q1 HCr
        go_loopw [38] (fun i wr => ∃ j : Nat, j ≤ en ∧ i = .int .i64 j ∧ Hid (Pk A w2.heap.size w3 wr)) (fun i _ => en - (intOf i).toNat)
        case atStart => exact ⟨0, Nat.zero_le _, rfl, HPK⟩
        case round =>
          clear HPK
          obtain ⟨j, hjn, rfl, HPK⟩ := hrel
          have HCr := hid (HCc.out.same (HPK.out.b qc hA4))
          by_cases hj : j < en
          · obtain ⟨b, off, lo, ln, lc, bo, bn, bc, he, ⟨y1, h1⟩, h2, h4, z1, hl63, hb63, hlo, hbo⟩ := HXA.out.1.fr2 hj
            simp only at he
            subst he
            have hbk : A b := Bx.block (a := ⟨b, off + j * 5 + 1, none⟩) HXA.out.2 fun w' h => by
              obtain ⟨b1, o1, _, _, _, _, _, _, e1, h1, _⟩ := h.fr2 hj
              simp only at e1
              cases e1
              exact h1
            have hx2 : Bx A w3 (fun w' => StU ⟨co, k, cc, some ⟨b, off, none⟩, en, ec⟩ S1 w' ∧ w'.cell? ⟨b, off + j * 5 + 2, none⟩ = some (.slice lo ln lc) ∧ w'.cell? ⟨b, off + j * 5 + 4, none⟩ = some (.slice bo bn bc)) := fun w' h' => ⟨HXA.out.2 w' h', (World.cell?_of_block (h' b hbk)).trans h2, (World.cell?_of_block (h' b hbk)).trans h4⟩
            have hla : ∀ i, i < ln → ∃ b2 off2, lo = some ⟨b2, off2, none⟩ ∧ A b2 ∧ (∃ y, w3.cell? ⟨b2, off2 + i * 2 + 1, none⟩ = some (.int .i64 y)) ∧ w3.frozen? ⟨b2, off2 + i * 2 + 1, none⟩ = false := fun i hi => by
              obtain ⟨b2, o2, e2, hy, hz⟩ := hlo i hi
              refine ⟨b2, o2, e2, Bx.block (a := ⟨b2, o2 + i * 2 + 1, none⟩) hx2 fun w' ⟨h, c2, c4⟩ => ?_, hy, hz⟩
              obtain ⟨b1, o1, lo1, ln1, lc1, bo1, bn1, bc1, e1, _, d2, d4, _, _, _, hl1, _⟩ := h.fr2 hj
              simp only at e1
              cases e1
              rw [c2] at d2
              cases d2
              obtain ⟨b3, o3, e3, hy3, _⟩ := hl1 i hi
              rw [e2] at e3
              cases e3
              exact hy3
            have hba : ∀ i, i < bn → ∃ b2 off2, bo = some ⟨b2, off2, none⟩ ∧ A b2 ∧ (∃ y, w3.cell? ⟨b2, off2 + i * 2, none⟩ = some (.int .i64 y)) ∧ w3.frozen? ⟨b2, off2 + i * 2, none⟩ = false := fun i hi => by
              obtain ⟨b2, o2, e2, hy, hz⟩ := hbo i hi
              refine ⟨b2, o2, e2, Bx.block (a := ⟨b2, o2 + i * 2, none⟩) hx2 fun w' ⟨h, c2, c4⟩ => ?_, hy, hz⟩
              obtain ⟨b1, o1, lo1, ln1, lc1, bo1, bn1, bc1, e1, _, d2, d4, _, _, _, _, hl1⟩ := h.fr2 hj
              simp only at e1
              cases e1
              rw [c4] at d4
              cases d4
              obtain ⟨b3, o3, e3, hy3, _⟩ := hl1 i hi
              rw [e2] at e3
              cases e3
              exact hy3
            have HLA := hid hla; have HBA := hid hba; have H1 := hid h1; have H2 := hid h2; have H4 := hid h4; have HZ1 := hid z1
            have q1 := HCr.out.cell 1 _ rfl
            have e2 := HPK.out.slice h2
            clear hla hba hlo hbo hx2 h1 h2 h4 z1
            go_wp2_with fail
            obtain ⟨wb', hwb⟩ : ∃ wa : World, wa = wr := ⟨_, rfl⟩
            subst hwb
            clear q1 e2 HCr
            go_loopw [48] (fun i wr => ∃ i2 : Nat, i2 ≤ ln ∧ i = .int .i64 i2 ∧ Hid (Pk A w2.heap.size w3 wr)) (fun i _ => ln - (intOf i).toNat)
            case atStart => exact ⟨0, Nat.zero_le _, rfl, HPK⟩
            case round =>
              clear HPK
              obtain ⟨i2, hin, rfl, HPK⟩ := hrel
              have HCr := hid (HCc.out.same (HPK.out.b qc hA4))
              have q1 := HCr.out.cell 1 _ rfl
              by_cases hi : i2 < ln
              · obtain ⟨b2, off2, rfl, hA2, ⟨y, hy⟩, hz⟩ := HLA.out i2 hi
                obtain ⟨z, hyz⟩ := HPK.out.int hy
                have hf : wr.frozen? ⟨b2, off2 + i2 * 2 + 1, none⟩ = false := (HPK.out.f _).trans hz
                have HNX := hid fun x => HPK.out.step (a := ⟨b2, off2 + i2 * 2 + 1, none⟩) hA2 (hAB b2 hA2) hyz x
                have e2 := HPK.out.slice H2.out
                clear hy hz
                go_wp2_with fail
                go_roundw
                case rel => exact ⟨i2 + 1, by omega, by go_num, hid (HNX.out _)⟩
                case measure => simp [intOf]; omega
              · obtain rfl : i2 = ln := by omega
                have e4 := HPK.out.slice H4.out
                go_wp2_with fail
                obtain ⟨wc', hwc⟩ : ∃ wa : World, wa = wr := ⟨_, rfl⟩
                subst hwc
                clear q1 e4 HCr
                go_loopw [72] (fun i wr => ∃ i3 : Nat, i3 ≤ bn ∧ i = .int .i64 i3 ∧ Hid (Pk A w2.heap.size w3 wr)) (fun i _ => bn - (intOf i).toNat)
                case atStart => exact ⟨0, Nat.zero_le _, rfl, HPK⟩
                case round =>
                  clear HPK
                  obtain ⟨i3, hin, rfl, HPK⟩ := hrel
                  have HCr := hid (HCc.out.same (HPK.out.b qc hA4))
                  have q1 := HCr.out.cell 1 _ rfl
                  by_cases hi : i3 < bn
                  · obtain ⟨b2, off2, rfl, hA2, ⟨y, hy⟩, hz⟩ := HBA.out i3 hi
                    obtain ⟨z, hyz⟩ := HPK.out.int hy
                    have hf : wr.frozen? ⟨b2, off2 + i3 * 2, none⟩ = false := (HPK.out.f _).trans hz
                    have HNX := hid fun x => HPK.out.step (a := ⟨b2, off2 + i3 * 2, none⟩) hA2 (hAB b2 hA2) hyz x
                    have e4 := HPK.out.slice H4.out
                    clear hy hz
                    go_wp2_with fail
                    go_roundw
                    case rel => exact ⟨i3 + 1, by omega, by go_num, hid (HNX.out _)⟩
                    case measure => simp [intOf]; omega
                  · obtain rfl : i3 = bn := by omega
                    obtain ⟨z, hyz⟩ := HPK.out.int H1.out
                    have hf : wr.frozen? ⟨b, off + j * 5 + 1, none⟩ = false := (HPK.out.f _).trans HZ1.out
                    have HNX := hid fun x => HPK.out.step (a := ⟨b, off + j * 5 + 1, none⟩) hbk (hAB b hbk) hyz x
                    go_wp2_with fail
                    go_roundw
                    case rel => exact ⟨j + 1, by omega, by go_num, hid (HNX.out _)⟩
                    case measure => simp [intOf]; omega
          · obtain rfl : j = en := by omega
            have hd0 := HCd.out.same (HPK.out.b qd hA5)
            have hpA : ¬ A p := fun h => by have := hAB p h; omega
            have h2r := H23.out.trans (HPK.out.k)
            have ha0 := HCA.out.keep hp2 h2r
            have d0 := hd0.cell 0 _ rfl
            have d1 := hd0.cell 1 _ rfl
            have d2 := hd0.cell 2 _ rfl
            have s0 := ha0.cell 0 _ rfl
            have s1 := ha0.cell 1 _ rfl
            have s2 := ha0.cell 2 _ rfl
            have HRD := hid (HXD.out wr fun b hb => HPK.out.b b (hDA b hb))
            have HRS := hid (HSA.out.below h2r)
            have HBE := hid (Bl.step HBL.out h2r)
            clear hd0 h2r ha0
            go_wp2_with fail
            refine (eq_to ⟨ro, rn, rc, so, sn, sc⟩ ⟨xo, xn, xc, yo, yn, yc⟩ S1 S1 true (by simp) wr HRD.out HRS.out).mono ?_
            rintro e wz ⟨rfl, hb⟩
            have HBZ := hid (Bl.step HBE.out hb)
            clear hb d0 d1 d2 s0 s1 s2
            go_wp2_with fail
            go_ret
            exact ⟨rfl, by first | exact HBZ.out | (rw [← HP.out]; exact HBZ.out)⟩
  done
end Go.Proofs.Ytnbegmlbkjjggaa
