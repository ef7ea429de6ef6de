/- extent's program side, assembled. -/
import Derived.Test.YtjihemgidogoeaaEyG
namespace Go.Proofs.Ytjihemgidogoeaa
open Go.RowKit
set_option linter.unusedVariables false

def theEx : ExtSpec where
  At := exAt
  ok := fun h => by obtain ⟨_, _, _, hR, _⟩ := h; exact hR.ok
  lt := fun h => by obtain ⟨_, _, _, _, _, _, h3⟩ := h; exact h3
  keep := exAt.keep
  new_to := exNew_to
  take_to := exTake_to
  use_to := exUse_to
  give_to := exGive_to
  free_to := exFree_to
  spans_to := exSpans_to
  copy_to := exCopy_to
  take_nil := exTake_nil
  use_nil := exUse_nil
  give_nil := exGive_nil
  free_nil := exFree_nil
  spans_nil := exSpans_nil
  copy_nil := exCopy_nil
end Go.Proofs.Ytjihemgidogoeaa
