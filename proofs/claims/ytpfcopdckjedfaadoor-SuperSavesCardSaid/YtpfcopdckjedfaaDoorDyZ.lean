/- dev: the package keeps what its laws ask of it. -/
import Derived.Test.YtpfcopdckjedfaaDoorDyK
namespace Go.Proofs.YtpfcopdckjedfaaDoor
open Go.RowKit Go.Maps
set_option linter.unusedVariables false

theorem bel_of {w w' : World} (h : w = w') : Below w.heap.size w w' := by subst h; exact Below.refl _ _
theorem dy3 {A : Nat → Prop} {p bs bm : Nat} (hA : ∀ b, A b ↔ b = p ∨ b = bs ∨ b = bm) : A = fun b => b = p ∨ b = bs ∨ b = bm := funext fun b => propext (hA b)
noncomputable def theSpec : DevSpec where
  E := 60
  At := DyAt
  ok := by rintro A M p w ⟨p, bs, cap, bm, rfl, hA, h⟩; exact h.ok
  lt := by
    rintro A M p w ⟨p, bs, cap, bm, rfl, hA, h⟩ b hb
    obtain ⟨l1, l2, l3⟩ := h.lt
    rcases (hA b).1 hb with rfl | rfl | rfl <;> assumption
  keep := by
    rintro A M p w w' ⟨p, bs, cap, bm, rfl, hA, h⟩ hk
    exact ⟨p, bs, cap, bm, rfl, hA, h.stay (hk _ ((hA p).2 (.inl rfl))) (hk _ ((hA bs).2 (.inr (.inl rfl)))) (hk _ ((hA bm).2 (.inr (.inr rfl))))⟩
  new_to := fun n w hn => (new_to n w hn).mono (by
    rintro e w' ⟨p, bs, cap, bm, rfl, h1, h2, h3, h4, h5⟩
    exact ⟨_, fun b => b = p ∨ b = bs ∨ b = bm, rfl, (by rintro b (rfl | rfl | rfl) <;> assumption), ⟨p, bs, cap, bm, rfl, fun b => Iff.rfl, h4⟩, h5⟩)
  len_to := by
    rintro A M p w ⟨p, bs, cap, bm, rfl, hA, h⟩
    exact (len_to h).mono (by rintro e w' ⟨rfl, he⟩; exact ⟨rfl, bel_of he⟩)
  read_to := by
    rintro A M p w i ⟨p, bs, cap, bm, rfl, hA, h⟩ hi
    exact read_to h i hi
  write_to := by
    rintro A M p w i ao n cp b ⟨p, bs, cap, bm, rfl, hA, h⟩ hi hb hap hc
    refine (write_to h i hi ao n cp b hb (fun ad ha hx => hap ad ha ((hA _).2 hx)) hc).mono ?_
    rintro e w' ⟨rfl, h1, h2⟩
    exact ⟨A, rfl, fun b hb => .inl hb, ⟨p, bs, cap, bm, rfl, hA, h1⟩, by rw [dy3 hA]; exact h2⟩
  flush_to := by
    rintro A M p w ⟨p, bs, cap, bm, rfl, hA, h⟩ hc
    refine (flush_to h hc).mono ?_
    rintro e w' ⟨rfl, h1, h2⟩
    exact ⟨A, rfl, fun b hb => .inl hb, ⟨p, bs, cap, bm, rfl, hA, h1⟩, by rw [dy3 hA]; exact h2⟩
  loose_to := by
    rintro A M p w ⟨p, bs, cap, bm, rfl, hA, h⟩
    exact loose_to h
  dead_to := by
    rintro A M p w ⟨p, bs, cap, bm, rfl, hA, h⟩
    exact (dead_to h).mono (by rintro e w' ⟨rfl, he⟩; exact ⟨rfl, bel_of he⟩)
  fuse_to := by
    rintro A M p w n ⟨p, bs, cap, bm, rfl, hA, h⟩ hn
    refine (fuse_to h n hn).mono ?_
    rintro e w' ⟨rfl, h1, h2⟩
    refine ⟨A, rfl, fun b hb => .inl hb, ⟨p, bs, cap, bm, rfl, hA, h1⟩, ⟨h2.os, h2.tape, h2.output, h2.size, fun b hb hn => h2.block b hb (fun e => hn ((hA b).2 (.inl (by cases e; rfl))))⟩⟩
  crash_to := by
    rintro A M p w ao n cp ks ⟨p, bs, cap, bm, rfl, hA, h⟩ hks
    refine (crash_to h hks).mono ?_
    rintro e w' ⟨q, bs2, cap2, bm2, rfl, h1, h2, h3, h4, h5⟩
    exact ⟨_, fun b => b = q ∨ b = bs2 ∨ b = bm2, rfl, (by rintro b (rfl | rfl | rfl) <;> assumption), ⟨q, bs2, cap2, bm2, rfl, fun b => Iff.rfl, h4⟩, h5⟩
  len_nil := fun w => (len_nil w).mono (by rintro e w' ⟨rfl, he⟩; exact ⟨rfl, bel_of he⟩)
  read_nil := fun w i => (read_nil i w).mono (by rintro e w' ⟨rfl, he⟩; exact ⟨_, rfl, Own.nil _ _ _ _, bel_of he⟩)
  write_nil := fun w i ao n cap => (write_nil i ao n cap w).mono (by rintro e w' ⟨rfl, he⟩; exact ⟨rfl, bel_of he⟩)
  flush_nil := fun w => (flush_nil w).mono (by rintro e w' ⟨rfl, he⟩; exact ⟨rfl, bel_of he⟩)
  loose_nil := fun w => (loose_nil w).mono (by rintro e w' ⟨rfl, he⟩; exact ⟨_, rfl, Own.nil _ _ _ _, bel_of he⟩)
  dead_nil := fun w => (dead_nil w).mono (by rintro e w' ⟨rfl, he⟩; exact ⟨rfl, bel_of he⟩)
  fuse_nil := fun w n => (fuse_nil n w).mono (by rintro e w' ⟨rfl, he⟩; exact ⟨rfl, bel_of he⟩)
  crash_nil := fun w ao n cap => (crash_nil _ w).mono (by rintro e w' ⟨rfl, he⟩; exact ⟨rfl, bel_of he⟩)
end Go.Proofs.YtpfcopdckjedfaaDoor
