/- code.nest: begin, part, end, take. -/
import Derived.Test.YtfambbpggodlkaaCodeRows
import Derived.Test.YtfambbpggodlkaaInsBody
import Derived.Test.YtfambbpggodlkaaCodeMath
import Derived.Deep.RegionLaw
import Derived.BigRegion
import Derived.Deep.Cut
namespace Go.Proofs.Ytfambbpggodlkaa
open Go.RowKit

theorem infoBlk : (Try.prog.info? 32).map (fun i => (i.zero, i.size, i.bytes)) = some (some (.agg #[.int .i64 0, .int .i64 0, .int .i64 0]), 3, 24) := by kernel_rfl
theorem infoOpn : (Try.prog.info? 77).map (fun i => (i.zero, i.size, i.bytes)) = some (some (.agg #[.int .i64 0, .bool false]), 2, 16) := by kernel_rfl

/-- A block's cells: z stands for an end that is not there yet. -/
def bkC (z : Int) (b : Bk) : List Value := [.int .i64 b.at', .int .i64 b.els, .int .i64 (if b.en = -1 then z else b.en)]
def opC (p : Nat × Bool) : List Value := [.int .i64 (p.1 : Int), .bool p.2]

/-- The nest at block p. -/
def Nest (B : Nat) (w : World) (p : Nat) (s : Ns) : Prop :=
  ∃ vb vo, Pair w p vb vo ∧ B ≤ p ∧ OwnC 32 3 B w vb (s.bl.map (bkC 0)) ∧ OwnC 77 2 B w vo (s.op.reverse.map opC) ∧
    (∀ g, vb.ownBlock = some g → g ≠ p) ∧ (∀ g, vo.ownBlock = some g → g ≠ p) ∧ (∀ g, vb.ownBlock = some g → vo.ownBlock ≠ some g)

theorem Pair.grown {w w' : World} {p : Nat} {x y : Value} {r : Option Nat} (h : Pair w p x y) (hg : w.grownBy w' r) (hr : r ≠ some p) : Pair w' p x y := by
  have hlt : p < w.heap.size := World.block_lt_of_cell? w _ h.c0
  have hb := hg.block p hlt (fun e => hr e.symm)
  exact ⟨(World.cell?_of_block (a := ⟨p, 0, none⟩) hb).trans h.c0, (World.cell?_of_block (a := ⟨p, 1, none⟩) hb).trans h.c1, (World.frozen?_of_block (a := ⟨p, 0, none⟩) hb).trans h.f0, (World.frozen?_of_block (a := ⟨p, 1, none⟩) hb).trans h.f1⟩
theorem Pair.set0 {w : World} {p : Nat} {x y : Value} (h : Pair w p x y) (x' : Value) : Pair (w.setCell ⟨p, 0, none⟩ x') p x' y := by
  have c0 := h.c0
  have c1 := h.c1
  have f0 := h.f0
  have f1 := h.f1
  constructor <;> go_simp
theorem Pair.set1 {w : World} {p : Nat} {x y : Value} (h : Pair w p x y) (y' : Value) : Pair (w.setCell ⟨p, 1, none⟩ y') p x y' := by
  have c0 := h.c0
  have c1 := h.c1
  have f0 := h.f0
  have f1 := h.f1
  constructor <;> go_simp
theorem Pair.lt {w : World} {p : Nat} {x y : Value} (h : Pair w p x y) : p < w.heap.size := World.block_lt_of_cell? w _ h.c0
theorem Pair.drew {w : World} {p : Nat} {x y : Value} (h : Pair w p x y) : Pair w.drew p x y := ⟨h.c0, h.c1, h.f0, h.f1⟩

theorem Nest.shape {B : Nat} {w : World} {p : Nat} {s : Ns} (h : Nest B w p s) : ∃ bo bc oo oc, Pair w p (.slice bo s.bl.length bc) (.slice oo s.op.length oc) ∧ B ≤ p ∧ OwnC 32 3 B w (.slice bo s.bl.length bc) (s.bl.map (bkC 0)) ∧
    OwnC 77 2 B w (.slice oo s.op.length oc) (s.op.reverse.map opC) ∧ s.bl.length ≤ bc ∧ bc ≤ 9223372036854775807 ∧ s.op.length ≤ oc ∧ oc ≤ 9223372036854775807 ∧
    (∀ ad, bo = some ad → ad.block ≠ p) ∧ (∀ ad, oo = some ad → ad.block ≠ p) ∧ (∀ ad ad', bo = some ad → oo = some ad' → ad.block ≠ ad'.block) ∧
    (0 < s.bl.length → ∃ g, bo = some ⟨g, 0, none⟩) ∧ (0 < s.op.length → ∃ g, oo = some ⟨g, 0, none⟩) := by
  obtain ⟨vb, vo, hp, hB, hb, ho, n1, n2, n3⟩ := h
  obtain ⟨bo, bc, rfl, h1, h2, h3⟩ := hb.shape
  obtain ⟨oo, oc, rfl, h4, h5, h6⟩ := ho.shape
  simp only [List.length_map, List.length_reverse] at *
  refine ⟨bo, bc, oo, oc, hp, hB, hb, ho, h1, h2, h4, h5, fun ad e => n1 _ (by rw [e]; rfl), fun ad e => n2 _ (by rw [e]; rfl), fun ad ad' e e' h => ?_, h3, h6⟩
  exact n3 ad.block (by rw [e]; rfl) (by rw [e', h]; rfl)

theorem begin_no (B p : Nat) (s : Ns) (x : Int) (i : Nat) (w : World) (hN : Nest B w p s) (h40 : s.op.length = 40) :
    Calls Try.prog 35 #[.pointer (some ⟨p, 0, none⟩), .int .i64 x, .int .i64 i] w fun e w' => e = .returned (.bool false) ∧ w = w' := by
  obtain ⟨bo, bc, oo, oc, hp, _⟩ := hN.shape
  rw [h40] at hp
  have c0 := hp.c0
  have c1 := hp.c1
  clear hp hN
  go_enter Try.func35, Try.ntmps35
  go_wp2_with fail
  go_ret
  exact ⟨rfl, rfl⟩

/-- What an append to the open ones leaves. -/
theorem nest_mid {B H p bn on bc oc g cap : Nat} {bo oo : Option Addr} {w w1 w2 : World} {rb ro : List (List Value)} {r : List Value}
    (hp : Pair w p (.slice bo bn bc) (.slice oo on oc)) (hb : OwnC 32 3 B w (.slice bo bn bc) rb) (ho : OwnC 77 2 B w (.slice oo on oc) ro) (hB : B ≤ w.heap.size)
    (n1 : ∀ ad, bo = some ad → ad.block ≠ p) (n2 : ∀ ad, oo = some ad → ad.block ≠ p) (n3 : ∀ ad ad', bo = some ad → oo = some ad' → ad.block ≠ ad'.block)
    (hw : Below w.heap.size w w1) (hH : w.heap.size < H) (hr : r.length = 2) (hn : ro.length = on)
    (o2 : w2.ownsRow B 77 2 (.slice (some ⟨g, 0, none⟩) (on + 1) cap) (on + 1) (ro.flatten ++ r)) (g2 : w1.grownBy w2 (Value.slice oo on oc).ownBlock) (hg : (Value.slice oo on oc).ownBlock = some g ∨ g = H) :
    Pair w2 p (.slice bo bn bc) (.slice oo on oc) ∧ OwnC 32 3 B w2 (.slice bo bn bc) rb ∧ OwnC 77 2 B w2 (.slice (some ⟨g, 0, none⟩) (on + 1) cap) (ro ++ [r]) ∧ Below B w w2 ∧ g ≠ p ∧ (∀ ad, bo = some ad → ad.block ≠ g) ∧ w1.heap.size ≤ w2.heap.size := by
  have hlt := hp.lt
  have hlb := hb.lt
  have hlo := ho.lt
  have hgg : g ≠ p ∧ (∀ ad, bo = some ad → ad.block ≠ g) := by
    rcases hg with hg | hg
    · cases oo with
      | none => simp [Value.ownBlock] at hg
      | some ad =>
        simp [Value.ownBlock] at hg
        subst hg
        exact ⟨n2 ad rfl, fun ad' e => n3 ad' ad e rfl⟩
    · refine ⟨by omega, fun ad e => ?_⟩
      have := (hlb ad.block (by rw [e]; rfl)).2
      omega
  refine ⟨(hp.below hw).grown g2 ?_, (hb.below hw (Nat.le_refl _)).grown g2 ?_, OwnC.snoc r hr ho.wid (by omega) o2, ?_, hgg.1, hgg.2, g2.size⟩
  · cases oo with
    | none => simp [Value.ownBlock]
    | some ad => simp only [Value.ownBlock]; intro e; exact n2 ad rfl (by simpa using e)
  · intro x hx
    cases oo with
    | none => simp [Value.ownBlock]
    | some ad =>
      cases bo with
      | none => simp [Value.ownBlock] at hx
      | some ad' =>
        simp [Value.ownBlock] at hx ⊢
        have := n3 ad' ad rfl rfl
        omega
  · refine grow_below (Below.refl _ _) hw g2 ?_ hB |> fun h => h
    intro b hb'
    exact (hlo b hb').1

/-- What an append to the blocks leaves. -/
theorem nest_end {B H p bn bc on oc g cap : Nat} {bo oo : Option Addr} {x0 : Value} {w w1 w2 : World} {rb ro : List (List Value)} {r : List Value}
    (hp : Pair w p x0 (.slice oo on oc)) (hB : B ≤ p) (hb : OwnC 32 3 B w (.slice bo bn bc) rb) (ho : OwnC 77 2 B w (.slice oo on oc) ro)
    (n1 : ∀ ad, bo = some ad → ad.block ≠ p) (n2 : ∀ ad, oo = some ad → ad.block ≠ p) (n3 : ∀ ad ad', bo = some ad → oo = some ad' → ad.block ≠ ad'.block)
    (hw : Below w.heap.size w w1) (hH : w.heap.size ≤ H) (hr : r.length = 3) (hn : rb.length = bn)
    (o2 : w2.ownsRow B 32 3 (.slice (some ⟨g, 0, none⟩) (bn + 1) cap) (bn + 1) (rb.flatten ++ r)) (g2 : w1.grownBy w2 (Value.slice bo bn bc).ownBlock) (hg : (Value.slice bo bn bc).ownBlock = some g ∨ g = H) :
    Pair w2 p x0 (.slice oo on oc) ∧ OwnC 32 3 B w2 (.slice (some ⟨g, 0, none⟩) (bn + 1) cap) (rb ++ [r]) ∧ OwnC 77 2 B w2 (.slice oo on oc) ro ∧ Below B w w2 ∧ g ≠ p ∧ (∀ ad, oo = some ad → ad.block ≠ g) := by
  have hlt := hp.lt
  have hlb := hb.lt
  have hlo := ho.lt
  have hgg : g ≠ p ∧ (∀ ad, oo = some ad → ad.block ≠ g) := by
    rcases hg with hg | hg
    · cases bo with
      | none => simp [Value.ownBlock] at hg
      | some ad =>
        simp [Value.ownBlock] at hg
        subst hg
        exact ⟨n1 ad rfl, fun ad' e e' => n3 ad ad' rfl e e'.symm⟩
    · refine ⟨by omega, fun ad e => ?_⟩
      have := (hlo ad.block (by rw [e]; rfl)).2
      omega
  refine ⟨(hp.below hw).grown g2 ?_, OwnC.snoc r hr hb.wid (by omega) o2, (ho.below hw (Nat.le_refl _)).grown g2 ?_, ?_, hgg.1, hgg.2⟩
  · cases bo with
    | none => simp [Value.ownBlock]
    | some ad => simp only [Value.ownBlock]; intro e; exact n1 ad rfl (by simpa using e)
  · intro x hx
    cases bo with
    | none => simp [Value.ownBlock]
    | some ad =>
      cases oo with
      | none => simp [Value.ownBlock] at hx
      | some ad' =>
        simp [Value.ownBlock] at hx ⊢
        have := n3 ad ad' rfl rfl
        omega
  · exact grow_below (Below.refl _ _) hw g2 (fun b hb' => (hlb b hb').1) (by omega)

set_option maxHeartbeats 1000000 in
theorem begin_to (B p : Nat) (s : Ns) (x : Int) (i : Nat) (w : World) (hN : Nest B w p s) (h40 : s.op.length < 40) (hbl : s.bl.length ≤ 400) :
    Calls Try.prog 35 #[.pointer (some ⟨p, 0, none⟩), .int .i64 x, .int .i64 i] w fun e w' => e = .returned (.bool true) ∧ Nest B w' p ⟨s.bl ++ [⟨i, -1, -1⟩], (s.bl.length, x == 4) :: s.op⟩ ∧ Below B w w' := by
  obtain ⟨bo, bc, oo, oc, hp, hB, hb, ho, h1, h2, h3, h4, n1, n2, n3, _, _⟩ := hN.shape
  obtain ⟨bn, hbn⟩ : ∃ bn, bn = s.bl.length := ⟨_, rfl⟩
  obtain ⟨on, hon⟩ : ∃ on, on = s.op.length := ⟨_, rfl⟩
  rw [← hbn] at hp hb h1 hbl ⊢
  rw [← hon] at hp ho h3 h40
  have HBN := hid hbn
  have HON := hid hon
  have HP := hid hp
  have HO := hid ho
  have HBK := hid hb
  have HN1 := hid n1
  have HN2 := hid n2
  have HN3 := hid n3
  have c0 := hp.c0
  have c1 := hp.c1
  have hplt := hp.lt
  have h40' : ((on : Int) == 40) = false := by simp; omega
  obtain ⟨fl, hfl⟩ : ∃ fl, fl = (x == 4) := ⟨_, rfl⟩
  have HFL := hid hfl
  rw [← hfl]
  have hfl' := hfl.symm
  clear hN hbn hon hb ho n1 n2 n3 hp hfl
  obtain ⟨i0, hi0, hz0, hz1, hz2⟩ := info_parts infoOpn
  obtain ⟨i1, hi1, hy0, hy1, hy2⟩ := info_parts infoBlk
  go_enter Try.func35, Try.ntmps35
  go_wp2_with fail
  have hnews : ∀ j u, [Value.int .i64 bn, .bool fl][j]? = some u → (w.alloc (.cells #[.int .i64 bn, .bool fl] 77)).drew.cell? ((⟨w.heap.size, 0, none⟩ : Addr).add j) = some u := World.news_of_block (heap_alloc_new w _)
  have HNW := hid hnews
  have hro := HO.out.rowN (n := on) (by simp [HON.out])
  have HRO := hid hro
  clear hro hnews
  have hbel : Below w.heap.size w (w.alloc (.cells #[.int .i64 bn, .bool fl] 77)).drew := (Bl.alloc (Bl.refl w) _).drew
  have hBw : B ≤ w.heap.size := by omega
  go_region_law (refine step_append_lies _ rfl (.tmp 17) (.tmp 26) 59 rfl B 77 i0 _ 2 16 Try.underlying59 hi0 hz0 hz1 hz2 rfl (by decide) (.slice oo on oc) on _ rfl (HRO.out.alloc _).drew ⟨w.heap.size, 0, none⟩ 1 1 [.int .i64 bn, .bool fl] rfl rfl HNW.out (by simp [Value.oneCell']) (by decide) (by unfold maxLen; omega) (by omega) (by simp; omega) (w.heap.size + 1) (by simp) ?_; intro g cap2 w2 o2 g2 hg2 _
                 have hM := hid (nest_mid HP.out HBK.out HO.out hBw HN1.out HN2.out HN3.out hbel (by simp) (by rfl) (by simp [HON.out]) o2 g2 hg2)
                 have m1 := hM.out.1.c1
                 have m2 := hM.out.1.f1
                 clear o2 g2 hg2)
  all_goals
    obtain ⟨q1, q2, q3, q4, q5, q6, q7⟩ := hM.out
    have HP3 := hid (q1.set1 (.slice (some ⟨g, 0, none⟩) (on + 1) cap2))
    have HB3 := hid (q2.aside (p := ⟨p, 1, none⟩) (fun b hb => by cases bo with
      | none => simp [Value.ownBlock] at hb
      | some ad => simp [Value.ownBlock] at hb; rw [← hb]; exact HN1.out ad rfl) (.slice (some ⟨g, 0, none⟩) (on + 1) cap2))
    have HO3 := hid (q3.aside (p := ⟨p, 1, none⟩) (fun b hb => by simp [Value.ownBlock] at hb; rw [← hb]; exact q5) (.slice (some ⟨g, 0, none⟩) (on + 1) cap2))
    have HL3 := hid (Below.setCell q4 (p := ⟨p, 1, none⟩) hB (.slice (some ⟨g, 0, none⟩) (on + 1) cap2))
    have hsz3 : B ≤ (w2.setCell ⟨p, 1, none⟩ (.slice (some ⟨g, 0, none⟩) (on + 1) cap2)).heap.size := by have := q4.size; simp; omega
    generalize w2.setCell ⟨p, 1, none⟩ (.slice (some ⟨g, 0, none⟩) (on + 1) cap2) = w3 at HP3 HB3 HO3 HL3 hsz3 ⊢
    have HG := hid (And.intro q5 q6)
    clear m1 m2 hM q1 q2 q3 q4 q5 q6 q7 HP HO HBK c0 c1 HNW HRO hbel HN2 HN3
    have hrb := HB3.out.rowN (n := bn) (by simp [HBN.out])
    have HRB := hid hrb
    have c0 := HP3.out.c0
    clear hrb
    go_wp2_with (at_builtin; apply stopHere)
    refine hid ?_
    have hro : (Value.slice (some ⟨g, 0, none⟩) (on + 1) cap2).ownBlock = some g := rfl
    refine wpList_append_lies _ rfl (.tmp 34) (.tmp 37) 25 rfl B 32 i1 _ 3 24 Try.underlying25 hi1 hy0 hy1 hy2 rfl (by decide) (.slice bo bn bc) bn _ rfl (HRB.out.alloc _) ⟨w3.heap.size, 0, none⟩ 1 1 [.int .i64 i, .int .i64 (-1), .int .i64 0] rfl rfl (World.news_of_block (heap_alloc_new w3 _)) (by simp [Value.oneCell']) (by decide) (by unfold maxLen; omega) (by omega) (by simp; omega) (w3.heap.size + 1) (by simp) ?_
    intro g' cap3 w4 o4 g4 hg4 _
    have hE := hid (nest_end HP3.out hB HB3.out HO3.out HN1.out (fun ad e => by cases e; exact HG.out.1) (fun ad ad' e e' => by cases e'; exact HG.out.2 ad e) (Bl.alloc (Bl.refl w3) (.cells #[.int .i64 i, .int .i64 (-1), .int .i64 0] 32)) (by omega) (by rfl) (by simp [HBN.out]) o4 g4 hg4)
    have e0 := hE.out.1.c0
    have e1 := hE.out.1.f0
    clear o4 g4 hg4 c0 HRB HP3 HB3 HO3
    go_wp2_with fail
    go_ret
    obtain ⟨q1, q2, q3, q4, q5, q6⟩ := hE.out
    refine ⟨rfl, ⟨_, _, q1.set0 _, hB, ?_, ?_, ?_, ?_, ?_⟩, Below.setCell (HL3.out.trans q4) hB _⟩
    · have := q2.aside (p := ⟨p, 0, none⟩) (fun b hb => by simp [Value.ownBlock] at hb; rw [← hb]; exact q5) (.slice (some ⟨g', 0, none⟩) (bn + 1) cap3)
      simpa [bkC] using this
    · have := q3.aside (p := ⟨p, 0, none⟩) (fun b hb => by simp [Value.ownBlock] at hb; rw [← hb]; exact HG.out.1) (.slice (some ⟨g', 0, none⟩) (bn + 1) cap3)
      simpa [opC, HBN.out, HFL.out] using this
    · intro x hx; simp [Value.ownBlock] at hx; rw [← hx]; exact q5
    · intro x hx; simp [Value.ownBlock] at hx; rw [← hx]; exact HG.out.1
    · intro x hx
      simp [Value.ownBlock] at hx
      have := q6 _ rfl
      simp [Value.ownBlock] at this ⊢
      omega
end Go.Proofs.Ytfambbpggodlkaa
