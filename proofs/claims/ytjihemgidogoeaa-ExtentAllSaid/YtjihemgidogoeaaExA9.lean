/- extent's laws: ExtentAll: a round, from its nodes. -/
import Derived.Test.YtjihemgidogoeaaExA8
import Derived.Test.YtjihemgidogoeaaExA1
namespace Go.Proofs.Ytjihemgidogoeaa
open Go.RowKit
set_option linter.unusedVariables false

theorem TK_to (X : ExtSpec) {a : Act} {w0 w : World} {Q : Exit → Act → World → Prop} {at' n on ocap fg k og : Nat} {oo : Option Addr} {p : Addr} {kd A N : Int} {F : List Bool} {M : Rm} (hK : SlK a at' n oo on ocap p fg k og) (hat : at' ≤ 50) (hn : n ≤ 60) (hlo : M.lo = at') (hlen : M.fr.length = n) (hp : M.pad F)
    (hS : MS X w0 w M p fg og F kd A N) (hN : (Lit.int .i64 N).wf = true) (hQ : ∀ a' w' M' F', SlK a' at' n oo on ocap p fg k og → M'.lo = at' → M'.fr.length = n → M'.pad F' → MS X w0 w' M' p fg og F' kd A N → Q .normal a' w') : Code.wp Try.prog (sub theBody [1, 1, 1, 1, 1, 1, 1, 0, 1, 0, 0, 1, 0, 0, 1, 1, 1, 1, 0, 1, 0, 1, 0]) Q a w := by
  show Code.wp Try.prog (.seq (sub theBody [1, 1, 1, 1, 1, 1, 1, 0, 1, 0, 0, 1, 0, 0, 1, 1, 1, 1, 0, 1, 0, 1, 0, 0]) (sub theBody [1, 1, 1, 1, 1, 1, 1, 0, 1, 0, 0, 1, 0, 0, 1, 1, 1, 1, 0, 1, 0, 1, 0, 1])) _ _ _
  refine wp_seq (r33_to (kd := 0) hK fun a1 hK1 t17 => ?_)
  show Code.wp Try.prog (.seq (sub theBody [1, 1, 1, 1, 1, 1, 1, 0, 1, 0, 0, 1, 0, 0, 1, 1, 1, 1, 0, 1, 0, 1, 0, 1, 0]) (sub theBody [1, 1, 1, 1, 1, 1, 1, 0, 1, 0, 0, 1, 0, 0, 1, 1, 1, 1, 0, 1, 0, 1, 0, 1, 1])) _ _ _
  refine wp_seq (L5_to hK1 t17 hat hn hlo hlen hp hS.c.2.2.1 hS.f fun a2 hK2 t17 => ?_)
  exact R44_to X hK2 t17 hat hn hlo hlen hp hS hN hQ
theorem SW_to (X : ExtSpec) {a : Act} {w0 w : World} {Q : Exit → Act → World → Prop} {at' n on ocap fg k og : Nat} {oo : Option Addr} {p : Addr} {kd A N : Int} {F : List Bool} {M : Rm} (hK : SlK a at' n oo on ocap p fg k og) (t13 : a.tmps.getD 13 undef = .bool (M.all A N true)) (t14 : a.tmps.getD 14 undef = .bool (M.all A N false)) (hat : at' ≤ 50) (hn : n ≤ 60) (hlo : M.lo = at') (hlen : M.fr.length = n) (hp : M.pad F)
    (hS : MS X w0 w M p fg og F kd A N) (hA : (Lit.int .i64 A).wf = true) (hN : (Lit.int .i64 N).wf = true) (hQ : ∀ a' w' M' F', SlK a' at' n oo on ocap p fg k og → M'.lo = at' → M'.fr.length = n → M'.pad F' → MS X w0 w' M' p fg og F' kd A N → Q .normal a' w') : Code.wp Try.prog (sub theBody [1, 1, 1, 1, 1, 1, 1, 0, 1, 0, 0, 1, 0, 0, 1, 1, 1, 1, 0]) Q a w := by
  show Code.wp Try.prog (.seq (sub theBody [1, 1, 1, 1, 1, 1, 1, 0, 1, 0, 0, 1, 0, 0, 1, 1, 1, 1, 0, 0]) (.block 8 (sub theBody [1, 1, 1, 1, 1, 1, 1, 0, 1, 0, 0, 1, 0, 0, 1, 1, 1, 1, 0, 1, 0]))) _ _ _
  refine wp_seq (r25_to hK hS.c.1 t13 t14 fun a1 hK1 t13 t14 t150 => ?_)
  refine wp_block ?_
  show Code.wp Try.prog (.seq (sub theBody [1, 1, 1, 1, 1, 1, 1, 0, 1, 0, 0, 1, 0, 0, 1, 1, 1, 1, 0, 1, 0, 0]) (.cond (.tmp 175) (sub theBody [1, 1, 1, 1, 1, 1, 1, 0, 1, 0, 0, 1, 0, 0, 1, 1, 1, 1, 0, 1, 0, 1, 0]) (sub theBody [1, 1, 1, 1, 1, 1, 1, 0, 1, 0, 0, 1, 0, 0, 1, 1, 1, 1, 0, 1, 0, 1, 1]))) _ _ _
  refine wp_seq (r32_to hK1 t13 t14 t150 fun a2 hK2 t13 t14 t150 t175 => ?_)
  refine wp_cond_split t175 (fun _ => ?_) (fun _ => ?_)
  · exact TK_to X hK2 hat hn hlo hlen hp hS hN hQ
  · show Code.wp Try.prog (.seq (sub theBody [1, 1, 1, 1, 1, 1, 1, 0, 1, 0, 0, 1, 0, 0, 1, 1, 1, 1, 0, 1, 0, 1, 1, 0]) (.cond (.tmp 276) (sub theBody [1, 1, 1, 1, 1, 1, 1, 0, 1, 0, 0, 1, 0, 0, 1, 1, 1, 1, 0, 1, 0, 1, 1, 1, 0]) (sub theBody [1, 1, 1, 1, 1, 1, 1, 0, 1, 0, 0, 1, 0, 0, 1, 1, 1, 1, 0, 1, 0, 1, 1, 1, 1]))) _ _ _
    refine wp_seq (r51_to hK2 t13 t14 t150 fun a3 hK3 t13 t14 t150 t276 => ?_)
    refine wp_cond_split t276 (fun _ => ?_) (fun _ => ?_)
    · exact US_to X hK3 t13 hat hn hlo hlen hp hS hA hN hQ
    · exact GV_to X hK3 t14 hat hn hlo hlen hp hS hA hN hQ
theorem B3_to (X : ExtSpec) {a : Act} {w0 w : World} {Q : Exit → Act → World → Prop} {at' n on ocap fg k : Nat} {b off : Nat} {p : Addr} {kd A N : Int} {F : List Bool} {M : Rm} (hK : SlH a at' n (some ⟨b, off, none⟩) on ocap p fg k) (hS : MS0 X w0 w M p fg F) (hat : at' ≤ 50) (hn : n ≤ 60) (hlo : M.lo = at') (hlen : M.fr.length = n) (hp : M.pad F) (hon : on ≤ ocap) (ho63 : ocap ≤ 9223372036854775807) (h1 : k < on)
    (c0 : w.cell? ⟨b, off + k * 3, none⟩ = some (.int .i64 kd)) (c1 : w.cell? ⟨b, off + k * 3 + 1, none⟩ = some (.int .i64 A)) (c2 : w.cell? ⟨b, off + k * 3 + 2, none⟩ = some (.int .i64 N)) (hA : (Lit.int .i64 A).wf = true) (hN : (Lit.int .i64 N).wf = true)
    (hQ : ∀ a' w' og M' F', SlK a' at' n (some ⟨b, off, none⟩) on ocap p fg k og → M'.lo = at' → M'.fr.length = n → M'.pad F' → MS0 X w0 w' M' p fg F' → Q .normal a' w') : Code.wp Try.prog (sub theBody [1, 1, 1, 1, 1, 1, 1, 0, 1, 0, 0, 1, 0, 0]) Q a w := by
  show Code.wp Try.prog (.seq (sub theBody [1, 1, 1, 1, 1, 1, 1, 0, 1, 0, 0, 1, 0, 0, 0]) (sub theBody [1, 1, 1, 1, 1, 1, 1, 0, 1, 0, 0, 1, 0, 0, 1])) _ _ _
  refine wp_seq (r15_to X hK hS hon ho63 h1 c0 c1 c2 fun a1 w1 og hK1 hS1 => ?_)
  show Code.wp Try.prog (.seq (sub theBody [1, 1, 1, 1, 1, 1, 1, 0, 1, 0, 0, 1, 0, 0, 1, 0]) (sub theBody [1, 1, 1, 1, 1, 1, 1, 0, 1, 0, 0, 1, 0, 0, 1, 1])) _ _ _
  obtain ⟨-, d1, d2, hog⟩ := hS1.c
  refine wp_seq (r16_to hK1 hat hn d1 d2 hog (bounds_i64 hA) fun a2 m hK2 t13 t14 => ?_)
  replace hS1 := hS1.bel (below_drewN _ _ m)
  obtain ⟨-, d1, d2, hog⟩ := hS1.c
  show Code.wp Try.prog (.seq (sub theBody [1, 1, 1, 1, 1, 1, 1, 0, 1, 0, 0, 1, 0, 0, 1, 1, 0]) (sub theBody [1, 1, 1, 1, 1, 1, 1, 0, 1, 0, 0, 1, 0, 0, 1, 1, 1])) _ _ _
  refine wp_seq (L3_to hK2 t13 t14 rfl hat hn d1 d2 hS1.f fun a3 hK3 t13 t14 => ?_)
  show Code.wp Try.prog (.seq (sub theBody [1, 1, 1, 1, 1, 1, 1, 0, 1, 0, 0, 1, 0, 0, 1, 1, 1, 0]) (sub theBody [1, 1, 1, 1, 1, 1, 1, 0, 1, 0, 0, 1, 0, 0, 1, 1, 1, 1])) _ _ _
  refine wp_seq (L4_to hK3 t14 t13 rfl hat hn d1 d2 hS1.f fun a4 hK4 t14 t13 => ?_)
  show Code.wp Try.prog (.seq (sub theBody [1, 1, 1, 1, 1, 1, 1, 0, 1, 0, 0, 1, 0, 0, 1, 1, 1, 1, 0]) (sub theBody [1, 1, 1, 1, 1, 1, 1, 0, 1, 0, 0, 1, 0, 0, 1, 1, 1, 1, 1])) _ _ _
  have e : ∀ b, (decide (Vld at' n A N) && allP F A.toNat N.toNat b) = M.all A N b := fun b => by rw [all_pad hp, hlo, hlen]
  rw [e] at t13 t14
  refine wp_seq (SW_to X hK4 t13 t14 hat hn hlo hlen hp hS1 hA hN fun a5 w5 M5 F5 hK5 hlo5 hlen5 hp5 hS5 => ?_)
  exact S58_to X hK5 hat hn hlo5 hlen5 hp5 hS5 fun a6 w6 hK6 hS6 => hQ a6 w6 og M5 F5 hK6 hlo5 hlen5 hp5 hS6
/-- The loop's own. -/
def EI (X : ExtSpec) (w0 : World) (at' n : Nat) (oo : Option Addr) (on ocap : Nat) (p : Addr) (fg : Nat) (a : Act) (w : World) : Prop :=
  ∃ (k : Nat) (M : Rm) (F : List Bool), SlH a at' n oo on ocap p fg k ∧ k ≤ 60 ∧ M.lo = at' ∧ M.fr.length = n ∧ M.pad F ∧ MS0 X w0 w M p fg F
def Emu (a : Act) : Nat := 60 - (intOf (a.tmps.getD 11 undef)).toNat
theorem round_to (X : ExtSpec) {w0 : World} {Q : Exit → Act → World → Prop} {at' n on ocap fg : Nat} {oo : Option Addr} {p : Addr} {rows : List (List Int)} (hX : RdS [.i64, .i64, .i64] w0 oo on ocap rows) (hat : at' ≤ 50) (hn : n ≤ 60)
    (hexit : ∀ a' w', EI X w0 at' n oo on ocap p fg a' w' → Q (.exit 2) a' w') (a : Act) (w : World) (hI : EI X w0 at' n oo on ocap p fg a w) :
    Code.wp Try.prog (sub theBody [1, 1, 1, 1, 1, 1, 1, 0, 1, 0, 0]) (Exit.then (fun a' w' => EI X w0 at' n oo on ocap p fg a' w' ∧ Emu a' < Emu a) Q) a w := by
  obtain ⟨k, M, F, hK, hk, hlo, hlen, hp, hS⟩ := hI
  have hmu : Emu a = 60 - k := by simp [Emu, hK.t11, intOf]
  rw [hmu]
  have hon := hX.le
  have ho63 := hX.cap63
  show Code.wp Try.prog (.seq (sub theBody [1, 1, 1, 1, 1, 1, 1, 0, 1, 0, 0, 0]) (.seq (.block 3 (sub theBody [1, 1, 1, 1, 1, 1, 1, 0, 1, 0, 0, 1, 0, 0])) (sub theBody [1, 1, 1, 1, 1, 1, 1, 0, 1, 0, 0, 1, 1]))) _ _ _
  by_cases hgo : k < on ∧ k < 60
  · refine wp_seq (H_go (kd := 0) (og := 0) hK hon ho63 hgo.1 hgo.2 fun a1 hK1 => ?_)
    obtain ⟨b, off, rfl, hc⟩ := hX.at (by omega) (by decide)
    have hwf := hX.wf k hgo.1
    have c := fun j (hj : j < 3) => (hS.L.b.cell (World.block_lt_of_cell? _ _ (hc k hgo.1 j hj))).trans (hc k hgo.1 j hj)
    refine wp_seq (wp_block ?_)
    refine B3_to X (A := (rows.getD k []).getD 1 0) (N := (rows.getD k []).getD 2 0) (kd := (rows.getD k []).getD 0 0) hK1 hS hat hn hlo hlen hp hon ho63 hgo.1 (c 0 (by decide)) (c 1 (by decide)) (c 2 (by decide)) (hwf 1 (by decide)) (hwf 2 (by decide)) fun a2 w2 og M2 F2 hK2 hlo2 hlen2 hp2 hS2 => ?_
    refine r14_to (kd := 0) hK2 hgo.2 fun a3 hK3 => ⟨⟨k + 1, M2, F2, hK3, by omega, hlo2, hlen2, hp2, hS2⟩, ?_⟩
    have : Emu a3 = 60 - (k + 1) := by simp [Emu, hK3.t11, intOf]
    omega
  · exact wp_seq (H_end (kd := 0) (og := 0) hK hon ho63 hgo fun a1 hK1 => hexit a1 w ⟨k, M, F, hK1, hk, hlo, hlen, hp, hS⟩)
end Go.Proofs.Ytjihemgidogoeaa
