/- A slice of bools that is read, out of an argument. -/
import Derived.Test.YtpfcopdckjedfaaDoorProg
import Derived.Test.YtpfcopdckjedfaaDoorWrs
import Derived.Deep.Slices
import Derived.Deep.Fields
import Derived.ChangeSame
import Derived.OpenShut
namespace Go.Proofs.YtpfcopdckjedfaaDoor
open Go.RowKit Go.ChangeShapes Go.WideShapes Go.Deep
abbrev BoolE := Bool
section
variable {H : Type} {enc : TypeId × Value → H} {w : World} {base : Nat} {spare : Nat → Bool} {held : Bool}
theorem open_boolsR {fuel : Nat} {cs : List Value} {x : DataW H × List MemPlace} (h : DataW.trod enc Tryd.prog w base spare held fuel 40 cs = some x) :
    ∃ ao n cap xs, cs = [.slice ao n cap] ∧ RdB w ao n cap xs := by
  rcases open_slice Tryd.underlying40 h with ⟨rfl, _⟩ | ⟨a, len, cap, m, n, D, Pl, rfl, _, hle, hm, hmm, _, hi⟩
  · exact ⟨none, 0, 0, [], rfl, RdB.empty w⟩
  · have hlm : len ≤ m := by rw [hmm]; split <;> omega
    have key : ∀ i : Nat, ∃ b : Bool, i < len → w.cell? (a.add i) = some (.bool b) := by
      intro i
      by_cases hil : i < len
      · obtain ⟨cs', hc, ht'⟩ := hi i (by omega)
        have hco : Tryd.prog.cellsOf 4 = 1 := by kernel_rfl
        rw [hco] at hc
        obtain ⟨b, e, _⟩ := DataW.trod_bool Tryd.underlying4 ht'
        subst e
        obtain ⟨_, hcl, hat⟩ := World.cells?_some hc
        have := hat 0 (by omega)
        exact ⟨b, fun _ => by simpa [Addr.add, hco] using this⟩
      · exact ⟨false, fun h => absurd h hil⟩
    obtain ⟨f, hf⟩ := Classical.axiomOfChoice key
    refine ⟨some a, len, cap, (List.range len).map f, rfl, by rw [List.length_map, List.length_range], hle, hm, (fun h => by cases h), fun ad ha i hi => ?_⟩
    cases ha
    rw [hf i hi]
    simp [List.getD, hi]
end
end Go.Proofs.YtpfcopdckjedfaaDoor
