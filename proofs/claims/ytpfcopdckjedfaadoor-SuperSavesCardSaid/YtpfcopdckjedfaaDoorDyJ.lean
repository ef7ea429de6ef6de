/- dev: slices.Clone of sectors. -/
import Derived.Test.YtpfcopdckjedfaaDoorDyI
import Derived.Lib.AppendZeros
namespace Go.Proofs.YtpfcopdckjedfaaDoor
open Go.RowKit Go.Maps
set_option linter.unusedVariables false
set_option maxRecDepth 100000

/-- 'append([]sector{}, s...)'. -/
theorem append46 {w : World} {L : List Sec} {bs cap : Nat} (hL : OwnC 60 64 0 w (.slice (some ⟨bs, 0, none⟩) L.length cap) (L.map cs8)) (h1 : 1 ≤ L.length) (h2 : L.length ≤ 2048) (ty : TypeId) {n : Nat} (hn : L.length = n) :
    ∃ w' g cap', (Builtin.append_ #[48, 48] ty #[.slice (some ⟨w.heap.size, 0, none⟩) 0 0, .slice (some ⟨bs, 0, none⟩) n cap]).run Tryd.prog (w.alloc (.cells #[] 60)) = .ok (.slice (some ⟨g, 0, none⟩) n cap') w' ∧
      w.heap.size ≤ g ∧ OwnC 60 64 0 w' (.slice (some ⟨g, 0, none⟩) n cap') (L.map cs8) ∧ Below w.heap.size w w' := by
  subst hn
  obtain ⟨i, hi0, hz, hsz, hby⟩ := info_parts info46
  have hfl := flat_len' 64 _ hL.wid
  have hc := (hL.alloc (.cells #[] 60)).row.cells (g := bs) rfl
  obtain ⟨v', w', hrun, h3, h4, _⟩ := run_append_own (P := Tryd.prog) (w.alloc (.cells #[] 60)) w.heap.size 48 ty 60 i (secV zSec) 64 64 Tryd.underlying48 hi0 hz hsz hby rfl (by decide)
    (.slice (some ⟨w.heap.size, 0, none⟩) 0 0) 0 [] (World.ownsRow_made w #[] 0 (Nat.le_refl _) (by unfold maxLen; omega) rfl) ⟨bs, 0, none⟩ L.length cap ((L.map cs8).flatten) (by rw [hfl]; simp) hc
    (fun u hu => by
      obtain ⟨r, hr, hur⟩ := List.mem_flatten.1 hu
      obtain ⟨s, _, rfl⟩ := List.mem_map.1 hr
      exact cs8_one s u hur) (by unfold maxLen; omega) (by omega) (by simp)
  rw [Nat.zero_add, List.nil_append] at h3
  rcases h3.2 with ⟨rfl, h0⟩ | ⟨g, cap', cur, rfl, hb, rest⟩
  · omega
  · refine ⟨w', g, cap', hrun, hb, ⟨?_, hL.wid⟩, ?_⟩
    · rw [List.length_map]
      exact ⟨h3.1, .inr ⟨g, cap', cur, rfl, Nat.zero_le _, rest⟩⟩
    · have : Below w.heap.size (w.alloc (.cells #[] 60)) w' := (Below.refl _ _).grown h4 (by simp) (fun b hb => by cases hb; exact Nat.le_refl _)
      exact (Bl.alloc (Bl.refl w) _).trans this
theorem clone_to {w : World} {L : List Sec} {bs cap : Nat} (hL : OwnC 60 64 0 w (.slice (some ⟨bs, 0, none⟩) L.length cap) (L.map cs8)) (h1 : 1 ≤ L.length) (h2 : L.length ≤ 2048) :
    Calls Tryd.prog 25 #[.slice (some ⟨bs, 0, none⟩) L.length cap] w fun e w' => ∃ g cap', e = .returned (.slice (some ⟨g, 0, none⟩) L.length cap') ∧ w.heap.size ≤ g ∧ OwnC 60 64 0 w' (.slice (some ⟨g, 0, none⟩) L.length cap') (L.map cs8) ∧ Below w.heap.size w w' := by
  have HL := hid (And.intro hL (And.intro h1 h2))
  obtain ⟨n, hn⟩ : ∃ n, L.length = n := ⟨_, rfl⟩
  rw [hn]
  have HN := hid hn
  clear hL h1 h2 hn
  have he := fun w => Lib.run_eql_slice_nil (P := Tryd.prog) w 48 60 (some ⟨bs, 0, none⟩) n cap 0 0 Tryd.underlying48
  go_enter Tryd.func25, Tryd.ntmps25
  go_wp2_with (at_builtin; apply stopHere)
  refine hid ?_
  obtain ⟨w', g, cap', hrun, q1, q2, q3⟩ := append46 HL.out.1 HL.out.2.1 HL.out.2.2 48 HN.out
  refine Lib.wpList_append_run _ rfl _ _ _ _ rfl _ _ rfl rfl _ _ hrun ?_
  have HQ := hid (And.intro q1 (And.intro q2 q3))
  clear q1 q2 q3 hrun
  go_wp2_with fail
  go_ret
  exact ⟨_, _, rfl, HQ.out⟩
end Go.Proofs.YtpfcopdckjedfaaDoor
