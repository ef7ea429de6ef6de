/- super: the package keeps what its laws ask of it. -/
import Derived.Test.YtpfcopdckjedfaaDoorSuI
import Derived.Test.YtpfcopdckjedfaaDoorDyZ
namespace Go.Proofs.YtpfcopdckjedfaaDoor
open Go.RowKit
set_option linter.unusedVariables false

theorem laid_below {B : Nat} {w w' : World} (h : Laid w) (hb : Below B w w') (hB : 0 < B) : Laid w' := fun i hi => by
  have hc := h i hi
  exact (World.cell?_of_block (hb.block 0 hB)).trans hc
noncomputable def theSu : SuSpec where
  toDevSpec := theSpec
  Su B s q w := SuAt B s q w ∧ s.text.length ≤ 40
  slt := by
    rintro B s q w ⟨⟨p, ao, n, cap, e, h1, h2, h3, h4, h5⟩, _⟩ b hb
    exact h5 b hb
  skeep := fun h hk => ⟨h.1.keep hk, h.2⟩
  Has := SHas
  L := Laid
  l0 := fun h => World.block_lt_of_cell? _ _ (h 0 (by decide))
  lbel := fun h hb hB => laid_below h hb hB
  loc := fun _ h1 h2 h => h.loc h1 h2
  make_to := by
    intro A M p w lo ao n cap b hat hr _ hf hc hn hlo hL
    refine (suMake_to theSpec A M p w lo ao n cap b hat hr hf hc hn hlo hL).mono ?_
    rintro e w' ⟨q, A', B, M', rfl, h1, h2, h3, h4, h5, h6⟩
    exact ⟨q, A', B, M', rfl, h1, h2, h3, h4, ⟨h5, by show b.length ≤ 40; rw [hr.len]; exact hn⟩, h6⟩
  save_to := by
    intro A B M s q w ao n cap b hat hsu hAB hr _ hst hh h0 h1 hc hn hlo hL
    refine (suSave_to theSpec A B M s q w ao n cap b hat hsu.1 hAB hr hst hh h0 h1 hc hn hlo hL).mono ?_
    rintro e w' ⟨A', B', M', E, s', rfl, g1, g2, g3, g4, g5, g6, g7, g8⟩
    refine ⟨A', B', M', E, s', rfl, g1, g2, g3, g4, ⟨g5, ?_⟩, g6, g7, g8⟩
    cases g7 with
    | good _ _ _ => show b.length ≤ 40; rw [hr.len]; exact hn
    | bad _ _ _ _ _ => exact hsu.2
  open_to := by
    intro A M p w lo b t hat hh hlo hL
    refine (suOpen_to theSpec A M p w lo b t hat hh hlo hL).mono ?_
    rintro e w' ⟨q, B, rfl, h1, h2, h3⟩
    exact ⟨q, B, rfl, h1, ⟨h2, hh.len⟩, h3⟩
  text_to := fun B s q w h => suText_to B s q w h.1 (Nat.le_trans h.2 (by decide))
  turn_to := fun B s q w h => suTurn_to B s q w h.1
  open_blank := fun A M p w lo hat hz hlo hL => suOpen_blank theSpec A M p w lo hat hz hlo hL
  make_far := fun A M p w i ao n cap b hat _ _ hn hi => suMake_far theSpec A M p w i ao n cap hat hn hi
  make_long := fun A M p w i ao n cap b _ _ _ hn => suMake_long _ w i ao n cap hn
  open_no := fun w i _ => suOpen_no theSpec w i
  save_no := fun w ao n cap => suSave_no w ao n cap
  text_no := fun w => suText_no w
  turn_no := fun w => suTurn_no w
  save_long := fun A B M s q w ao n cap b _ _ _ hn => suSave_long q w ao n cap hn
end Go.Proofs.YtpfcopdckjedfaaDoor
