/- bytes.Equal. The same words as WaEqB: never beside it. -/
import Derived.Test.YtpfcopdckjedfaaDoorProg
import Derived.Test.YtpfcopdckjedfaaDoorBase
import Derived.Test.YtpfcopdckjedfaaDoorQuiet
namespace Go.Proofs.YtpfcopdckjedfaaDoor
open Go.RowKit

theorem bEq_leaf {a b : Bool} (h : b = a) : Ending.returned (.bool a) = .returned (.bool b) := by rw [h]
theorem toList_inj {a b : ByteArray} (h : a.toList = b.toList) : a = b := by
  rw [ByteArray.toList_eq, ByteArray.toList_eq] at h
  cases a with
  | mk a =>
    cases b with
    | mk b => exact congrArg ByteArray.mk (Array.ext' h)
theorem rd_bs {w : World} {ao : Option Addr} {n cap : Nat} {xs : List Int} (h : Rd .u8 w ao n cap xs) : ∀ x ∈ xs, 0 ≤ x ∧ x ≤ 255 := fun x hx => bounds_u8 (h.wf x hx)
theorem bytesEqual_to (ao : Option Addr) (n cap : Nat) (xs : List Int) (bo : Option Addr) (m bap : Nat) (ys : List Int) (w : World) (h : Rd .u8 w ao n cap xs) (h' : Rd .u8 w bo m bap ys) :
    Calls Tryd.prog 37 #[.slice ao n cap, .slice bo m bap] w fun e w' => e = .returned (.bool (xs == ys)) ∧ Below w.heap.size w w' := by
  have hc1 := conv_str (P := Tryd.prog) h 30 9 5 Tryd.underlying30 Tryd.underlying5 Tryd.underlying9
  have hc2 := conv_str (P := Tryd.prog) h' 30 9 5 Tryd.underlying30 Tryd.underlying5 Tryd.underlying9
  have he : (strOfNums xs = strOfNums ys) ↔ xs = ys := ⟨fun e => strOfNums_inj (rd_bs h) (rd_bs h') e, fun e => by rw [e]⟩
  obtain ⟨s1, hs1⟩ : ∃ s1, strOfNums xs = s1 := ⟨_, rfl⟩
  obtain ⟨s2, hs2⟩ : ∃ s2, strOfNums ys = s2 := ⟨_, rfl⟩
  rw [hs1] at hc1 he
  rw [hs2] at hc2 he
  have HE := hid he
  clear hs1 hs2 he h h'
  by_cases e : xs = ys
  · have e1 := HE.out.2 e
    subst e1
    have er : (xs == ys) = true := by simp [e]
    rw [er]
    clear e er HE
    go_enter Tryd.func37, Tryd.ntmps37
    go_wp2_with fail
    go_ret
    exact ⟨bEq_leaf (by simp), Below.refl _ _⟩
  · have e1 : ¬ s1 = s2 := fun h => e (HE.out.1 h)
    have e2 : ¬ s1.toList = s2.toList := fun h => e1 (toList_inj h)
    have er : (xs == ys) = false := by simp [e]
    rw [er]
    clear e er HE
    go_enter Tryd.func37, Tryd.ntmps37
    go_wp2_with fail
    go_ret
    exact ⟨bEq_leaf (by simp [e2]), Below.refl _ _⟩

end Go.Proofs.YtpfcopdckjedfaaDoor
