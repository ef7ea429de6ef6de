/- space: Elems. -/
import Derived.Test.YthknmoaffapkhaaSpg
import Derived.Test.YthknmoaffapkhaaRepI
namespace Go.Proofs.Ythknmoaffapkhaa
open Go.RowKit Go.Maps
set_option linter.unusedVariables false

theorem rep_any (x : Int) (hx : (Lit.int .i64 x).wf = true) (c : Nat) (h2 : c ≤ 32) (ao : Option Addr) (cap : Nat) (w : World) (h : Rd .i64 w ao 1 cap [x]) :
    Calls Try.prog 21 #[.slice ao 1 cap, .int .i64 (c : Int)] w fun e w' => ∃ v, e = .returned v ∧ Own 3 .i64 w.heap.size w' v (List.replicate c x) ∧ Below w.heap.size w w' := by
  by_cases h0 : c = 0
  · subst h0
    exact repeat_none x ao cap w h
  · exact repeat_to x hx c (by omega) h2 ao cap w h
theorem elems_nil (w : World) : Calls Try.prog 13 #[.pointer none] w fun e w' => e = .returned (.slice none 0 0) ∧ w = w' := by
  go_enter Try.func13, Try.ntmps13
  go_wp2_with fail
  go_ret
  exact ⟨rfl, rfl⟩
/-- The list so far: what is still to come is -1. -/
structure Part (T : List Int) (left : Lit → Bool) (X : List Int) : Prop where
  len : X.length = T.length
  at' : ∀ j : Nat, j < T.length → X.getD j 0 = if left (key j) then -1 else T.getD j 0
theorem Part.start {D : DataW Unit} {T : List Int} (h : TabD D T) : Part T (Maps.has D) (List.replicate T.length (-1)) := by
  refine ⟨by simp, fun j hj => ?_⟩
  have e : (List.replicate T.length (-1 : Int)).getD j 0 = -1 := by simp [List.getD, hj]
  rw [e]
  by_cases hh : T.getD j 0 = -1
  · rw [h.non j hj hh, hh]; rfl
  · rw [has_true_of_atKey (h.is' j hj hh)]; rfl
theorem Part.step {D : DataW Unit} {T X : List Int} {left : Lit → Bool} (hD : TabD D T) (h : Part T left X) (x c : Int) (hat : ∀ zd, D.atKey (.int .i64 x) zd = .lit (.int .i64 c)) : ∃ j : Nat, x = j ∧ j < T.length ∧ c = T.getD j 0 ∧ Part T (fun z => left z && !z.sameKey (.int .i64 x)) (X.set j c) := by
  have hh := has_true_of_atKey hat
  have h2 := hD.has x
  rw [show (Lit.int .i64 x) = key x from rfl] at hh
  rw [hh] at h2
  have h3 := of_decide_eq_true h2.symm
  obtain ⟨j, rfl⟩ : ∃ j : Nat, x = j := ⟨x.toNat, by omega⟩
  rw [Int.toNat_natCast] at h3
  have hj : j < T.length := by omega
  have hc : c = T.getD j 0 := by
    have := (hat (.lit (key 0))).symm.trans (hD.is' j hj h3.2.2 (.lit (key 0)))
    simp only [DataW.lit.injEq, Lit.int.injEq, true_and] at this
    exact this
  refine ⟨j, rfl, hj, hc, by rw [List.length_set]; exact h.len, fun i hi => ?_⟩
  rw [getD_setI X j i c (by rw [h.len]; exact hj)]
  by_cases e : j = i
  · subst e
    rw [if_pos rfl, hc]
    have : (key (j : Int)).sameKey (.int .i64 (j : Int)) = true := by simp [Lit.sameKey]
    simp [this]
  · rw [if_neg e, h.at' i hi]
    have : (key (i : Int)).sameKey (.int .i64 (j : Int)) = false := sameKey_ne (key_ne (by omega))
    simp [this]
theorem Part.done {T X : List Int} {left : Lit → Bool} (h : Part T left X) (hl : ∀ k, left k = false) : X = T := by
  apply List.ext_getElem h.len
  intro i h1 h2
  have := h.at' i h2
  rw [hl] at this
  simpa [List.getD, h1, h2] using this
theorem gr_refl' (w : World) (r : Option Nat) : w.grownBy w r := ⟨rfl, rfl, rfl, Nat.le_refl _, fun _ _ _ => rfl⟩

set_option maxHeartbeats 1000000 in
theorem elems_to {B nb : Nat} {w : World} {S : Spc} {T : List Int} {V : List (Int × Int)} (h : SpAt B w S nb T V) (hT : ∀ f ∈ T, (Lit.int .i64 f).wf = true) :
    Calls Try.prog 13 #[spv S] w fun e w' => ∃ v, e = .returned v ∧ Own 3 .i64 w.heap.size w' v T ∧ Below w.heap.size w w' := by
  obtain ⟨c0, c1, _⟩ := h.cells
  have hlt := h.lt.1
  have hs := h.small
  have hrd := Rd.built w .i64 3 (-1) (by decide)
  have hrep := rep_any (-1) (by decide) T.length (by omega) _ _ _ hrd
  obtain ⟨n, hn⟩ : ∃ n, T.length = n := ⟨_, rfl⟩
  rw [hn] at c0 hrep hs
  have HS := hid (And.intro h (And.intro hn hT))
  have hd1 : decide ((2147483647 : Int) < (n : Int)) = false := by simp; omega
  clear h hn hrd hT
  go_enter Try.func13, Try.ntmps13
  go_wp2_with fail
  refine hrep.mono ?_
  rintro e w1 ⟨v, rfl, ho, hb⟩
  clear hrep
  have hb1 : Below w.heap.size w w1 := (Bl.alloc (Bl.refl w) _).trans (hb.mono (by simp))
  have ho1 := ho.lift (base' := w.heap.size) (by simp)
  have c1' : w1.cell? ⟨S.p, 1, none⟩ = some (.map (some S.bm)) := (hb1.cell (p := ⟨S.p, 1, none⟩) hlt).trans c1
  have hsp := HS.out.1.bl hb1
  obtain ⟨D, hown, hD⟩ := hsp.map
  obtain ⟨ao, cap, rfl, hrd⟩ := ho1.rd
  simp only [List.length_replicate] at ho1 hrd ⊢
  have HO := hid ho1
  have HB := hid hb1
  have HD := hid hD
  have hc63 := hrd.cap63
  have hle := hrd.le
  clear ho hb ho1 hb1 hD c0 c1 hsp hrd
  go_wp2_with (first
    | (at_range; refine wpList_range_own _ rfl _ 58 rfl 3 3 keyedI Try.underlying58 _ S.bm nb _ rfl hown ?_; intro w2 hrg0 hg0 hs0)
    | go_in)
  go_frame
  have hX0 : Part T (Maps.has D) (List.replicate n (-1)) := by rw [← HS.out.2.1]; exact Part.start HD.out
  have hblt : ∀ ad, ao = some ad → ad.block < w1.heap.size := fun ad e => (HO.out.lt ad.block (by rw [e]; rfl)).2
  have hne0 : (Value.slice ao n cap).ownBlock ≠ some S.bm := HO.out.ne_map hown
  have hO2 : Own 3 .i64 w.heap.size w2 (.slice ao n cap) (List.replicate n (-1)) := ⟨HO.out.row.kept hg0 (by cases hv : (Value.slice ao n cap).ownBlock <;> simp), HO.out.wf⟩
  have hB2 : Below w.heap.size w w2 := HB.out.trans ((Below.refl _ _).grown hg0 HB.out.size (fun b hb => by cases hb))
  have HBL := hid (And.intro hblt hne0)
  obtain ⟨r, hr⟩ : ∃ r, w1.heap.size = r := ⟨_, rfl⟩
  rw [hr] at HBL hrg0
  rw [hr]
  have hwr : w.heap.size ≤ r := by rw [← hr]; exact HB.out.size
  have HI := hid (And.intro hrg0 (And.intro hX0 (And.intro hO2 hB2)))
  clear hX0 hblt hne0 hO2 hB2 hg0 hs0 hrg0 hr HO HB hown c1'
  go_loopw [26] (fun _ wr => ∃ (left : Lit → Bool) (cnt : Nat) (X : List Int), wr.ranges Try.prog 3 (plainElem Try.prog 3) S.bm r nb D left cnt ∧ Part T left X ∧ Own 3 .i64 w.heap.size wr (.slice ao n cap) X ∧ Below w.heap.size w wr)
    (fun _ wr => wr.rangeLeft S.bm r)
  case atStart => exact ⟨_, _, _, HI.out⟩
  case round =>
    clear HI
    obtain ⟨left, cnt, X, hrg, hP, hO, hB⟩ := hrel
    have HP := hid (And.intro hP (And.intro hO hB))
    clear hP hO hB
    go_wp2_with (first
      | (at_next; refine wpList_next_ranges_ii _ rfl _ rfl 3 3 .i64 .i64 keyedI Try.underlying3 Try.underlying3 S.bm r nb _ _ _ rfl hrg ?_ ?_)
      | go_in)
    · intro _ hl0
      obtain ⟨hP, hO, hB⟩ := HP.out
      have e := hP.done hl0
      subst e
      have H := hid (And.intro hO hB)
      clear hrg HP hP hO hB HD HS
      go_wp2_with fail
      go_ret
      exact ⟨_, rfl, H.out⟩
    · intro x c w3 cnt1 hwx hwc hlx hat hrg1 hlt1 hg1 hs1 hen
      obtain ⟨hP, hO, hB⟩ := HP.out
      obtain ⟨j, rfl, hj, hc, hP2⟩ := hP.step HD.out x c hat
      rw [HS.out.2.1] at hj
      have hXl : X.length = n := by rw [hP.len]; exact HS.out.2.1
      obtain ⟨g, cp, e, hg, hcp, hcp2⟩ := hO.form (by omega)
      rw [hXl] at e
      injection e with e1 e2 e3
      subst e1 e3
      have hgr : g < r := HBL.out.1 _ rfl
      have hgm : g ≠ S.bm := fun e => HBL.out.2 (by rw [e]; rfl)
      have hO3 : Own 3 .i64 w.heap.size w3 (.slice (some ⟨g, 0, none⟩) n cap) X := ⟨hO.row.kept hg1 (.inr (by simp [Value.ownBlock]; omega)), hO.wf⟩
      have hB3 : Below w.heap.size w w3 := hB.trans ((Below.refl _ _).grown hg1 hB.size (fun b hb => by cases hb; exact hwr))
      obtain ⟨a0, f0, _, hgw, _⟩ := hO3.cell j (by omega)
      have hO4 := hO3.set j c hwc
      have hB4 := Below.setCell hB3 (p := ⟨g, j, none⟩) hg (.int .i64 c)
      have hrg4 := hrg1.kept (grown_set w3 ⟨g, j, none⟩ (.int .i64 c)) (by simp; omega) (by simp; omega)
      have H := hid (And.intro hP2 (And.intro hO4 hB4))
      clear hP2 hO4 hB4 hO3 hB3 hP hO hB HP hat hlx hg1 hrg1 e2 hXl hcp hcp2 hc
      go_wp2_with fail
      go_roundw
      case rel => exact ⟨_, cnt1, _, hrg4, H.out⟩
      case measure => rw [hrg4.left_eq, hrg.left_eq]; exact hlt1
end Go.Proofs.Ythknmoaffapkhaa
