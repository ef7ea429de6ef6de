/- The table of math/bits out of the card's premise. -/
import Derived.Test.YtiohgigbnncpiaaDoorRows
import Derived.Test.YtiohgigbnncpiaaDoorIntBits
import Derived.LaidMore
import Derived.OpenShut
import Derived.Stop.Joined
namespace Go.Proofs.YtiohgigbnncpiaaDoor
open Go.RowKit Go.ChangeShapes Go.WideShapes

abbrev laids (H : Type) : List (String × DataW H) := [("math/bits.deBruijn64tab", Rows.laid_math_bits_deBruijn64tab)]
theorem gTab : Tryd.prog.globalNamed "math/bits.deBruijn64tab" = some 0 := by kernel_rfl
theorem tTab : (Tryd.prog.globals[0]?).map (·.type) = some 60 := by kernel_rfl

theorem door_met (os : Os) (args : Array Value) : laidMetH Tryd.prog (laids _) ((World.doorLaid Tryd.prog 400 os).forCall (fun _ _ => 0) ⟨#[], args, []⟩).memory :=
  laidMetH_of_parts3 (fuel := 8) (laidMet_of_run' 8 (by kernel_rfl) (by kernel_rfl)) (by kernel_rfl) (by kernel_rfl)

theorem Laid.of_met {W : World} (h : laidMetH Tryd.prog (laids _) W) : Laid W := by
  rw [MakeChecks.laidMetH_plain _ _ _ (by kernel_rfl)] at h
  obtain ⟨ps, ⟨g0, t0, cs0, f0, p0, q0, hg0, ht0, hv0, hd0, _, _⟩, _⟩ := h
  obtain rfl := Option.some.inj (gTab.symm.trans hg0)
  obtain rfl := Option.some.inj (tTab.symm.trans ht0)
  obtain ⟨xs, m1, rfl, hx1, hlen, hn3, hel⟩ := DataW.trod_array Tryd.underlying60 hd0
  have c3 : Tryd.prog.cellsOf 5 = 1 := by kernel_rfl
  have hxs : xs.map (fun x => x.1) = (List.range 64).map fun i => DataW.lit (.int .u8 (Lib.deBruijn64tab.getD i 0 : Nat)) := by
    have h1 := congrArg Prod.fst hx1
    injection h1 with h2
    rw [← h2]
    rfl
  rw [c3] at hel
  intro i hi
  rw [World.var?_cell gTab hv0 i]
  have h1 := hel i hi
  have hlt : i < xs.length := by omega
  rw [List.getElem?_eq_getElem hlt, Nat.mul_one] at h1
  obtain ⟨k, e1, e2, _⟩ := DataW.trod_int Tryd.underlying5 h1
  have h3 : (xs.map (fun x => x.1))[i]? = some (DataW.lit (.int .u8 k)) := by simp [hlt, e2]
  rw [hxs] at h3
  simp [hi] at h3
  obtain ⟨l⟩ := cs0
  have h4 : l[i]? = some (.int .u8 k) := by
    have : (List.drop i l)[0]? = some (.int .u8 k) := by
      cases hd : List.drop i l with
      | nil => simp [hd] at e1
      | cons c r => simp [hd] at e1; simp [e1]
    simpa using this
  simp only [List.getElem?_toArray, h4]
  rw [← h3]
  simp [List.getD]
end Go.Proofs.YtiohgigbnncpiaaDoor
