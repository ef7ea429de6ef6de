/- An argument that is a slice of structs whose fields are whole numbers: what is read there. No program is named here. -/
import Derived.Test.YtjihemgidogoeaaBase
import Derived.Deep.Slices
import Derived.Deep.Fields
import Derived.ChangeSame
import Derived.OpenShut
namespace Go.Proofs.Ytjihemgidogoeaa
open Go.RowKit Go.ChangeShapes Go.WideShapes Go.Deep

/-- A slice of records of numbers that is read: record i's field j is (rows i j), of kind (ks j). -/
structure RdS (ks : List IntKind) (w : World) (ao : Option Addr) (n cap : Nat) (rows : List (List Int)) : Prop where
  len : rows.length = n
  le : n ≤ cap
  max : cap ≤ maxLen
  nil : ao = none → cap = 0
  cell : ∀ ad, ao = some ad → ∀ i, i < n → ∀ j, j < ks.length → w.cell? (ad.add (i * ks.length + j)) = some (.int (ks.getD j .i64) ((rows.getD i []).getD j 0))
  wf : ∀ i, i < n → ∀ j, j < ks.length → (Lit.int (ks.getD j .i64) ((rows.getD i []).getD j 0)).wf = true
section
variable {ks : List IntKind} {w w' : World} {ao : Option Addr} {n cap : Nat} {rows : List (List Int)}
theorem RdS.cap63 (h : RdS ks w ao n cap rows) : cap ≤ 9223372036854775807 := by have := h.max; unfold maxLen at this; omega
theorem RdS.below (h : RdS ks w ao n cap rows) (hb : Below w.heap.size w w') : RdS ks w' ao n cap rows :=
  ⟨h.len, h.le, h.max, h.nil, fun ad ha i hi j hj => by
    have hc := h.cell ad ha i hi j hj
    exact (hb.cell (World.block_lt_of_cell? w _ hc)).trans hc, h.wf⟩
theorem RdS.at (h : RdS ks w ao n cap rows) (hp : 0 < n) (hk : 0 < ks.length) : ∃ b off, ao = some ⟨b, off, none⟩ ∧ ∀ i, i < n → ∀ j, j < ks.length → w.cell? ⟨b, off + (i * ks.length + j), none⟩ = some (.int (ks.getD j .i64) ((rows.getD i []).getD j 0)) := by
  cases ao with
  | none => have := h.nil rfl; have := h.le; omega
  | some ad =>
    have h0 := h.cell ad rfl 0 hp 0 hk
    have hs : ad.spot = none := by
      rw [Nat.zero_mul, Nat.add_zero] at h0
      simpa [Addr.add] using World.cell?_spot h0
    obtain ⟨b, off, s⟩ := ad
    simp only at hs
    subst hs
    refine ⟨b, off, rfl, fun i hi j hj => ?_⟩
    have := h.cell _ rfl i hi j hj
    rwa [Addr.add_lit] at this
end
section
variable {H : Type} {enc : TypeId × Value → H} {P : Program} {w : World} {base : Nat} {spare : Nat → Bool} {held : Bool}
theorem open_rows {t e : TypeId} {fs : Array Field} (ks : List IntKind) {fuel : Nat} {cs : List Value} {x : DataW H × List MemPlace} (ht : P.underlying t = some (.slice e)) (he : P.underlying e = some (.struct fs))
    (hone : oneCellFields P fs = true) (hC : P.cellsOf e = fs.size) (hl : ks.length = fs.size) (hks : ∀ j f, fs[j]? = some f → P.underlying f.type = some (.int (ks.getD j .i64))) (h : DataW.trod enc P w base spare held fuel t cs = some x) :
    ∃ ao n cap rows, cs = [.slice ao n cap] ∧ RdS ks w ao n cap rows := by
  rcases open_slice ht h with ⟨rfl, _⟩ | ⟨a, len, cap, m, n, D, Pl, rfl, _, hle, hm, hmm, _, hi⟩
  · exact ⟨none, 0, 0, [], rfl, rfl, Nat.le_refl _, Nat.zero_le _, fun _ => rfl, (fun _ h => by cases h), fun i hi => absurd hi (Nat.not_lt_zero _)⟩
  · have hlm : len ≤ m := by rw [hmm]; split <;> omega
    have key : ∀ i : Nat, ∃ r : List Int, i < len → ∀ j, j < ks.length → w.cell? ((a.add (i * ks.length)).add j) = some (.int (ks.getD j .i64) (r.getD j 0)) ∧ (Lit.int (ks.getD j .i64) (r.getD j 0)).wf = true := by
      intro i
      by_cases hil : i < len
      · obtain ⟨cs', hc, ht'⟩ := hi i (by omega)
        rw [hC] at hc
        obtain ⟨ys, n', hn', hy, hlen, hyl, hf⟩ := DataW.trod_struct he ht'
        obtain ⟨_, hcl, hat⟩ := World.cells?_some hc
        have one : ∀ j : Nat, ∃ z : Int, j < ks.length → cs'[j]? = some (.int (ks.getD j .i64) z) ∧ (Lit.int (ks.getD j .i64) z).wf = true := by
          intro j
          by_cases hj : j < ks.length
          · obtain ⟨f, hjf⟩ : ∃ f, fs[j]? = some f := ⟨fs[j]'(by omega), Array.getElem?_eq_getElem (by omega)⟩
            obtain ⟨ho, hk⟩ := hone_of hone j f hjf
            have h1 := hf j f hjf
            rw [ho, hk] at h1
            have hone' : (cs'.drop j).take 1 = [cs'[j]'(by omega)] := by
              rw [List.drop_eq_getElem_cons (by omega)]
              rfl
            rw [hone'] at h1
            have hys : ys[j]? = some (ys[j]'(by omega)) := List.getElem?_eq_getElem (by omega)
            obtain ⟨z, ez, _, hw⟩ := DataW.trod_int (hks j f hjf) (h1.trans hys)
            simp only [List.cons.injEq, and_true] at ez
            exact ⟨z, fun _ => ⟨by rw [List.getElem?_eq_getElem (by omega), ez], hw⟩⟩
          · exact ⟨0, fun h => absurd h hj⟩
        obtain ⟨f, hf'⟩ := Classical.axiomOfChoice one
        refine ⟨(List.range ks.length).map f, fun _ j hj => ?_⟩
        have hg : ((List.range ks.length).map f).getD j 0 = f j := by simp [List.getD, hj]
        rw [hg, hl, hat j (by omega), (hf' j hj).1]
        exact ⟨rfl, (hf' j hj).2⟩
      · exact ⟨[], fun h => absurd h hil⟩
    obtain ⟨f, hf⟩ := Classical.axiomOfChoice key
    have hget : ∀ i, i < len → ((List.range len).map f).getD i [] = f i := by
      intro i hil
      simp [List.getD, hil]
    refine ⟨some a, len, cap, (List.range len).map f, rfl, by simp, hle, hm, (fun h => by cases h), fun ad ha i hil j hj => ?_, fun i hil j hj => by rw [hget i hil]; exact (hf i hil j hj).2⟩
    cases ha
    rw [hget i hil, ← Addr.add_add]
    exact (hf i hil j hj).1
end
end Go.Proofs.Ytjihemgidogoeaa
