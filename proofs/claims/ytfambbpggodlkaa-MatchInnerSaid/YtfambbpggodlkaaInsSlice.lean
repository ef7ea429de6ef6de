/- An argument that is a slice of instructions: what is read there. -/
import Derived.Test.YtfambbpggodlkaaInsRows
import Derived.Deep.Slices
import Derived.Deep.Fields
import Derived.ChangeSame
import Derived.OpenShut
namespace Go.Proofs.Ytfambbpggodlkaa
open Go.RowKit Go.ChangeShapes Go.WideShapes Go.Deep

theorem cells_ins : Try.prog.cellsOf 39 = 4 := by kernel_rfl

section
variable {H : Type} {enc : TypeId × Value → H} {w : World} {base : Nat} {spare : Nat → Bool} {held : Bool}

theorem open_list {fuel : Nat} {cs : List Value} {x : DataW H × List MemPlace} (h : DataW.trod enc Try.prog w base spare held fuel 35 cs = some x) : ∃ lo ln lc l, cs = [.slice lo ln lc] ∧ Rd .i64 w lo ln lc l := by
  rcases open_ints Try.underlying35 Try.underlying3 (by kernel_rfl) h with ⟨rfl, _⟩ | ⟨a, len, cap, zs, rfl, _, hl, hm, hz, _, hcell, hwz⟩
  · exact ⟨none, 0, 0, [], rfl, Rd.empty _ _⟩
  · have hle : len ≤ zs.length := by rw [hz]; split <;> omega
    refine ⟨some a, len, cap, zs.take len, rfl, by simp; omega, hl, hm, (fun h => by cases h), (fun ad ha i hi => ?_), fun x hx => hwz x (List.mem_of_mem_take hx)⟩
    cases ha
    rw [hcell i (by omega)]
    simp [List.getD, hi]

theorem open_four {P : Program} {t : TypeId} {f0 f1 f2 f3 : Field} {n : Nat} {cs : List Value} {y : DataW H × List MemPlace} (hs : P.underlying t = some (.struct #[f0, f1, f2, f3])) (hone : oneCellFields P #[f0, f1, f2, f3] = true) (hC : P.cellsOf t = 4)
    (h : DataW.trod enc P w base spare held n t cs = some y) :
    ∃ c0 c1 c2 c3 y0 y1 y2 y3 m, cs = [c0, c1, c2, c3] ∧ DataW.trod enc P w base spare held m f0.type [c0] = some y0 ∧ DataW.trod enc P w base spare held m f1.type [c1] = some y1 ∧
      DataW.trod enc P w base spare held m f2.type [c2] = some y2 ∧ DataW.trod enc P w base spare held m f3.type [c3] = some y3 := by
  obtain ⟨ys, m, _, _, hl, hyl, hf⟩ := DataW.trod_struct hs h
  rw [hC] at hl
  match cs, hl, ys, hyl with
  | [c0, c1, c2, c3], _, [y0, y1, y2, y3], _ =>
    obtain ⟨o0, k0⟩ := hone_of hone 0 f0 rfl
    obtain ⟨o1, k1⟩ := hone_of hone 1 f1 rfl
    obtain ⟨o2, k2⟩ := hone_of hone 2 f2 rfl
    obtain ⟨o3, k3⟩ := hone_of hone 3 f3 rfl
    exact ⟨c0, c1, c2, c3, y0, y1, y2, y3, m, rfl, by simpa [o0, k0] using hf 0 f0 rfl, by simpa [o1, k1] using hf 1 f1 rfl, by simpa [o2, k2] using hf 2 f2 rfl, by simpa [o3, k3] using hf 3 f3 rfl⟩

theorem open_ins_at {n : Nat} {cs : List Value} {y : DataW H × List MemPlace} (h : DataW.trod enc Try.prog w base spare held n 39 cs = some y) :
    ∃ p : IP, cs = p.cells ∧ okI p.ins ∧ Rd .i64 w p.lo p.ln p.lc p.l := by
  obtain ⟨c0, c1, c2, c3, y0, y1, y2, y3, m, rfl, h0, h1, h2, h3⟩ := open_four Try.underlying39 (by kernel_rfl) cells_ins h
  obtain ⟨op, e0, _, _⟩ := DataW.trod_int Try.underlying3 h0
  obtain ⟨p, e1, _, hw⟩ := DataW.trod_int Try.underlying2 h1
  obtain ⟨q, e2, _, _⟩ := DataW.trod_int Try.underlying2 h2
  obtain ⟨lo, ln, lc, l, e3, hr⟩ := open_list h3
  simp only [List.cons.injEq, and_true] at e0 e1 e2 e3
  subst e0 e1 e2 e3
  exact ⟨⟨op, p, q, lo, ln, lc, l⟩, rfl, bounds_i64 hw, hr⟩

/-- A slice of instructions, as an argument gives it. -/
theorem open_inss {fuel : Nat} {cs : List Value} {x : DataW H × List MemPlace} (h : DataW.trod enc Try.prog w base spare held fuel 22 cs = some x) :
    ∃ ao n cap is, cs = [.slice ao n cap] ∧ RdP w (fun _ => True) ao n cap is := by
  rcases open_slice Try.underlying22 h with ⟨rfl, _⟩ | ⟨a, len, cap, m, n, D, Pl, rfl, _, hl, hm, hmm, _, hi⟩
  · exact ⟨none, 0, 0, [], rfl, rfl, Nat.le_refl _, Nat.zero_le _, fun i hi => absurd hi (Nat.not_lt_zero _), fun i hi => absurd hi (Nat.not_lt_zero _)⟩
  · have hlm : len ≤ m := by rw [hmm]; split <;> omega
    have key : ∀ i : Nat, ∃ p : IP, i < len → (∀ j v, p.cells[j]? = some v → w.cell? ((a.add (i * 4)).add j) = some v) ∧ okI p.ins ∧ Rd .i64 w p.lo p.ln p.lc p.l := by
      intro i
      by_cases hil : i < len
      · obtain ⟨cs', hc, ht⟩ := hi i (by omega)
        rw [cells_ins] at hc
        obtain ⟨p, rfl, hok, hr⟩ := open_ins_at ht
        refine ⟨p, fun _ => ⟨fun j v hj => ?_, hok, hr⟩⟩
        obtain ⟨_, _, hcell⟩ := World.cells?_some hc
        rw [hcell j (by have := (List.getElem?_eq_some_iff.1 hj).1; simpa [IP.cells] using this), hj]
      · exact ⟨default, fun h => absurd h hil⟩
    obtain ⟨f, hf⟩ := Classical.axiomOfChoice key
    have hget : ∀ i, i < len → ((List.range len).map fun i => (f i).ins).getD i default = (f i).ins := by
      intro i hil
      simp [List.getD, hil]
    refine ⟨some a, len, cap, (List.range len).map fun i => (f i).ins, rfl, by simp, hl, hm, fun i hil => ?_, fun i hil => by rw [hget i hil]; exact (hf i hil).2.1⟩
    obtain ⟨hc, _, hr⟩ := hf i hil
    have hspot : a.spot = none := by
      have h0 := (hf 0 (by omega)).1 0 _ rfl
      simpa [Addr.add] using World.cell?_spot h0
    obtain ⟨b, off, spot⟩ := a
    simp only at hspot
    subst hspot
    have h0 := hc 0 _ rfl
    have h1 := hc 1 _ rfl
    have h2 := hc 2 _ rfl
    have h3 := hc 3 _ rfl
    simp only [Addr.add_lit, Nat.add_zero] at h0 h1 h2 h3
    rw [hget i hil]
    exact ⟨b, off, (f i).lo, (f i).ln, (f i).lc, rfl, h0, h1, h2, h3, hr, fun _ _ => trivial⟩
end
end Go.Proofs.Ytfambbpggodlkaa
