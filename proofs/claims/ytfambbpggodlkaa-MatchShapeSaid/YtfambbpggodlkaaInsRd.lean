/- A number that bytes begin with, as a function of them; a reader of bytes in a block of its own. -/
import Derived.Test.YtfambbpggodlkaaInsPuts
import Derived.Test.YtfambbpggodlkaaLebU
import Derived.Test.YtfambbpggodlkaaLebS
import Derived.Test.YtfambbpggodlkaaLebGetU
import Derived.Test.YtfambbpggodlkaaLebGetS
namespace Go.Proofs.Ytfambbpggodlkaa
open Go.RowKit

theorem stop_one {xs : List Int} {m k k' : Nat} (h : Stop xs m k) (h' : Stop xs m k') : k = k' := Stop.one h h'

theorem decU_ok {bits : Int} {xs : List Int} {k : Nat} (h : Stop xs ((bits + 6) / 7).toNat k) (g : goodU xs bits k) : decU bits xs = (val (xs.take (k + 1)), k + 1, 0) := by
  have he : ∃ k, Stop xs ((bits + 6) / 7).toNat k := ⟨k, h⟩
  have hk : he.choose = k := stop_one he.choose_spec h
  unfold decU
  rw [dif_pos he, hk, if_pos g]
theorem decU_bad {bits : Int} {xs : List Int} {k : Nat} (h : Stop xs ((bits + 6) / 7).toNat k) (g : ¬ goodU xs bits k) : decU bits xs = (0, 0, 1) := by
  have he : ∃ k, Stop xs ((bits + 6) / 7).toNat k := ⟨k, h⟩
  have hk : he.choose = k := stop_one he.choose_spec h
  unfold decU
  rw [dif_pos he, hk, if_neg g]
theorem no_stop {xs : List Int} {m : Nat} (h : ∀ i, i < m → i < xs.length → 128 ≤ xs.getD i 0) : ¬ ∃ k, Stop xs m k := by
  rintro ⟨k, hk⟩
  have := h k hk.most hk.lt
  have := hk.last
  omega
theorem decU_form {bits : Int} {xs : List Int} (h : ((bits + 6) / 7).toNat ≤ xs.length ∧ ∀ i, i < ((bits + 6) / 7).toNat → 128 ≤ xs.getD i 0) : decU bits xs = (0, 0, 1) := by
  unfold decU
  rw [dif_neg (no_stop fun i hi _ => h.2 i hi), if_pos h.1]
theorem decU_more {bits : Int} {xs : List Int} (h : xs.length < ((bits + 6) / 7).toNat ∧ ∀ i, i < xs.length → 128 ≤ xs.getD i 0) : decU bits xs = (0, 0, 2) := by
  unfold decU
  rw [dif_neg (no_stop fun i _ hi => h.2 i hi), if_neg (by omega)]
theorem decS_ok {bits : Int} {xs : List Int} {k : Nat} (h : Stop xs ((bits + 6) / 7).toNat k) (g : goodS xs bits k) : decS bits xs = (sval (xs.take (k + 1)), k + 1, 0) := by
  have he : ∃ k, Stop xs ((bits + 6) / 7).toNat k := ⟨k, h⟩
  have hk : he.choose = k := stop_one he.choose_spec h
  unfold decS
  rw [dif_pos he, hk, if_pos g]
theorem decS_bad {bits : Int} {xs : List Int} {k : Nat} (h : Stop xs ((bits + 6) / 7).toNat k) (g : ¬ goodS xs bits k) : decS bits xs = (0, 0, 1) := by
  have he : ∃ k, Stop xs ((bits + 6) / 7).toNat k := ⟨k, h⟩
  have hk : he.choose = k := stop_one he.choose_spec h
  unfold decS
  rw [dif_pos he, hk, if_neg g]
theorem decS_form {bits : Int} {xs : List Int} (h : ((bits + 6) / 7).toNat ≤ xs.length ∧ ∀ i, i < ((bits + 6) / 7).toNat → 128 ≤ xs.getD i 0) : decS bits xs = (0, 0, 1) := by
  unfold decS
  rw [dif_neg (no_stop fun i hi _ => h.2 i hi), if_pos h.1]
theorem decS_more {bits : Int} {xs : List Int} (h : xs.length < ((bits + 6) / 7).toNat ∧ ∀ i, i < xs.length → 128 ≤ xs.getD i 0) : decS bits xs = (0, 0, 2) := by
  unfold decS
  rw [dif_neg (no_stop fun i _ hi => h.2 i hi), if_neg (by omega)]

theorem goodS_bounds {xs : List Int} {bits : Int} {k : Nat} (h1 : 1 ≤ bits) (h2 : bits ≤ 64) (h : goodS xs bits k) : -9223372036854775808 ≤ sval (xs.take (k + 1)) ∧ sval (xs.take (k + 1)) ≤ 9223372036854775807 := by
  have h3 := h.2
  have : (2 : Int) ^ (bits - 1).toNat ≤ 2 ^ 63 := two_pow_le (by omega)
  have e : (2 : Int) ^ 63 = 9223372036854775808 := by decide
  omega

/-- What is told of a number's beginning. -/
theorem decU_spec {bits : Int} {xs : List Int} : 0 ≤ (decU bits xs).1 ∧ (decU bits xs).1 < 2 ^ bits.toNat ∧ (decU bits xs).2.1 ≤ xs.length ∧ ((decU bits xs).2.2 = 0 ∨ ((decU bits xs).2.2 = 1 ∨ (decU bits xs).2.2 = 2) ∧ (decU bits xs).1 = 0 ∧ (decU bits xs).2.1 = 0) := by
  have hp : (0 : Int) < 2 ^ bits.toNat := Int.pow_pos (by decide)
  rcases three xs ((bits + 6) / 7).toNat with ⟨k, hs⟩ | h | h
  · by_cases g : goodU xs bits k
    · rw [decU_ok hs g]
      exact ⟨val_nonneg _, g.2, hs.lt, .inl rfl⟩
    · rw [decU_bad hs g]
      exact ⟨Int.le_refl _, hp, Nat.zero_le _, .inr ⟨.inl rfl, rfl, rfl⟩⟩
  · rw [decU_form h]
    exact ⟨Int.le_refl _, hp, Nat.zero_le _, .inr ⟨.inl rfl, rfl, rfl⟩⟩
  · rw [decU_more h]
    exact ⟨Int.le_refl _, hp, Nat.zero_le _, .inr ⟨.inr rfl, rfl, rfl⟩⟩
theorem decS_spec {bits : Int} {xs : List Int} (h1 : 1 ≤ bits) (h2 : bits ≤ 64) : -9223372036854775808 ≤ (decS bits xs).1 ∧ (decS bits xs).1 ≤ 9223372036854775807 ∧ (decS bits xs).2.1 ≤ xs.length ∧ ((decS bits xs).2.2 = 0 ∨ ((decS bits xs).2.2 = 1 ∨ (decS bits xs).2.2 = 2) ∧ (decS bits xs).1 = 0 ∧ (decS bits xs).2.1 = 0) := by
  rcases three xs ((bits + 6) / 7).toNat with ⟨k, hs⟩ | h | h
  · by_cases g : goodS xs bits k
    · rw [decS_ok hs g]
      have := goodS_bounds h1 h2 g
      exact ⟨this.1, this.2, hs.lt, .inl rfl⟩
    · rw [decS_bad hs g]
      exact ⟨by simp, by simp, Nat.zero_le _, .inr ⟨.inl rfl, rfl, rfl⟩⟩
  · rw [decS_form h]
    exact ⟨by simp, by simp, Nat.zero_le _, .inr ⟨.inl rfl, rfl, rfl⟩⟩
  · rw [decS_more h]
    exact ⟨by simp, by simp, Nat.zero_le _, .inr ⟨.inr rfl, rfl, rfl⟩⟩

section
variable (ao : Option Addr) (n cap : Nat) (xs : List Int) (bits : Int) (w : World) (hr : Rd .u8 w ao n cap xs) (h1 : 1 ≤ bits) (h2 : bits ≤ 64)
include hr h1 h2
theorem U_to (v : Int) (k : Nat) (er : Int) (h : decU bits xs = (v, k, er)) :
    Calls Try.prog 77 #[.slice ao n cap, .int .i64 bits] w fun e w' => e = .returned (.tuple #[.int .u64 v, .int .i64 k, .int .i64 er]) ∧ w = w' := by
  have hm : (((bits + 6) / 7).toNat : Int) = (bits + 6) / 7 := by omega
  rcases three xs ((bits + 6) / 7).toNat with ⟨j, hs⟩ | g | g
  · by_cases gd : goodU xs bits j
    · rw [decU_ok hs gd] at h; cases h
      exact U_ok ao n cap xs bits w hr h1 h2 _ j hm hs gd
    · rw [decU_bad hs gd] at h; cases h
      exact U_bad ao n cap xs bits w hr h1 h2 _ j hm hs gd
  · rw [decU_form g] at h; cases h
    exact U_form ao n cap xs bits w hr h1 h2 _ hm g
  · rw [decU_more g] at h; cases h
    exact U_more ao n cap xs bits w hr h1 h2 _ hm g
theorem S_to (v : Int) (k : Nat) (er : Int) (h : decS bits xs = (v, k, er)) :
    Calls Try.prog 78 #[.slice ao n cap, .int .i64 bits] w fun e w' => e = .returned (.tuple #[.int .i64 v, .int .i64 k, .int .i64 er]) ∧ w = w' := by
  have hm : (((bits + 6) / 7).toNat : Int) = (bits + 6) / 7 := by omega
  rcases three xs ((bits + 6) / 7).toNat with ⟨j, hs⟩ | g | g
  · by_cases gd : goodS xs bits j
    · rw [decS_ok hs gd] at h; cases h
      exact S_ok ao n cap xs bits w hr h1 h2 _ j hm hs gd
    · rw [decS_bad hs gd] at h; cases h
      exact S_bad ao n cap xs bits w hr h1 h2 _ j hm hs gd
  · rw [decS_form g] at h; cases h
    exact S_form ao n cap xs bits w hr h1 h2 _ hm g
  · rw [decS_more g] at h; cases h
    exact S_more ao n cap xs bits w hr h1 h2 _ hm g
theorem GetU_to (v : Int) (k : Nat) (er : Int) (h : decU bits xs = (v, k, er)) :
    Calls Try.prog 72 #[.slice ao n cap, .int .i64 bits] w fun e w' => e = .returned (.tuple #[.int .u64 v, .int .i64 k, .int .i64 er]) ∧ Below w.heap.size w w' := by
  have hm : (((bits + 6) / 7).toNat : Int) = (bits + 6) / 7 := by omega
  rcases three xs ((bits + 6) / 7).toNat with ⟨j, hs⟩ | g | g
  · refine (GetU_go ao n cap xs bits w hr h1 h2 _ j hm hs).mono ?_
    rintro e w' ⟨ha, hb, hc⟩
    by_cases gd : goodU xs bits j
    · rw [decU_ok hs gd] at h; cases h
      exact ⟨ha gd, hc⟩
    · rw [decU_bad hs gd] at h; cases h
      exact ⟨hb gd, hc⟩
  · rw [decU_form g] at h; cases h
    refine (GetU_form ao n cap xs bits w hr h1 h2 _ hm g).mono ?_
    rintro e w' ⟨rfl, rfl⟩
    exact ⟨rfl, Below.refl _ _⟩
  · rw [decU_more g] at h; cases h
    refine (GetU_more ao n cap xs bits w hr h1 h2 _ hm g).mono ?_
    rintro e w' ⟨rfl, rfl⟩
    exact ⟨rfl, Below.refl _ _⟩
theorem GetS_to (v : Int) (k : Nat) (er : Int) (h : decS bits xs = (v, k, er)) :
    Calls Try.prog 73 #[.slice ao n cap, .int .i64 bits] w fun e w' => e = .returned (.tuple #[.int .i64 v, .int .i64 k, .int .i64 er]) ∧ Below w.heap.size w w' := by
  have hm : (((bits + 6) / 7).toNat : Int) = (bits + 6) / 7 := by omega
  rcases three xs ((bits + 6) / 7).toNat with ⟨j, hs⟩ | g | g
  · refine (GetS_go ao n cap xs bits w hr h1 h2 _ j hm hs).mono ?_
    rintro e w' ⟨ha, hb, hc⟩
    by_cases gd : goodS xs bits j
    · rw [decS_ok hs gd] at h; cases h
      exact ⟨ha gd, hc⟩
    · rw [decS_bad hs gd] at h; cases h
      exact ⟨hb gd, hc⟩
  · rw [decS_form g] at h; cases h
    refine (GetS_form ao n cap xs bits w hr h1 h2 _ hm g).mono ?_
    rintro e w' ⟨rfl, rfl⟩
    exact ⟨rfl, Below.refl _ _⟩
  · rw [decS_more g] at h; cases h
    refine (GetS_more ao n cap xs bits w hr h1 h2 _ hm g).mono ?_
    rintro e w' ⟨rfl, rfl⟩
    exact ⟨rfl, Below.refl _ _⟩
end

/-! ### A reader -/
/-- All but block p as it was; new blocks. -/
structure Mv (p : Nat) (w w' : World) : Prop where
  os : w'.os = w.os
  tape : w'.tape = w.tape
  output : w'.output = w.output
  size : w.heap.size ≤ w'.heap.size
  block : ∀ b, b < w.heap.size → b ≠ p → w'.heap[b]? = w.heap[b]?
theorem Mv.refl (p : Nat) (w : World) : Mv p w w := ⟨rfl, rfl, rfl, Nat.le_refl _, fun _ _ _ => rfl⟩
theorem Mv.trans {p : Nat} {w w' w'' : World} (h : Mv p w w') (g : Mv p w' w'') : Mv p w w'' :=
  ⟨g.os.trans h.os, g.tape.trans h.tape, g.output.trans h.output, Nat.le_trans h.size g.size, fun b hb hp => (g.block b (Nat.lt_of_lt_of_le hb h.size) hp).trans (h.block b hb hp)⟩
theorem Mv.of {p : Nat} {w w' : World} (h : Below w.heap.size w w') : Mv p w w' := ⟨h.os, h.tape, h.output, h.size, fun b hb _ => h.block b hb⟩
theorem Mv.set (p o : Nat) (w : World) (u : Value) : Mv p w (w.setCell ⟨p, o, none⟩ u) := ⟨rfl, rfl, rfl, by simp, fun b _ hp => Below.heap_setCell w ⟨p, o, none⟩ u b (fun e => hp e)⟩
theorem Mv.below {p B : Nat} {w w' : World} (h : Mv p w w') (hp : B ≤ p) (hB : B ≤ w.heap.size) : Below B w w' :=
  ⟨h.os, h.tape, h.output, h.size, fun b hb => h.block b (Nat.lt_of_lt_of_le hb hB) (by omega)⟩
theorem Mv.cell {p q : Nat} {w w' : World} (h : Mv p w w') {o : Nat} {v : Value} (hq : q ≠ p) (hc : w.cell? ⟨q, o, none⟩ = some v) : w'.cell? ⟨q, o, none⟩ = some v :=
  (World.cell?_of_block (h.block q (World.block_lt_of_cell? w _ hc) hq)).trans hc
theorem Mv.frozen {p q : Nat} {w w' : World} (h : Mv p w w') {o : Nat} (hq : q ≠ p) (hl : q < w.heap.size) : w'.frozen? ⟨q, o, none⟩ = w.frozen? ⟨q, o, none⟩ :=
  World.frozen?_of_block (h.block q hl hq)

/-- A reader in block p: bytes that were there in wB, where it stands, its error. -/
structure Rdr (wB w : World) (p : Nat) (ao : Option Addr) (n cap : Nat) (xs : List Int) (s : RS) : Prop where
  base : Below wB.heap.size wB w
  hp : wB.heap.size ≤ p
  rd : Rd .u8 wB ao n cap xs
  c0 : w.cell? ⟨p, 0, none⟩ = some (.slice ao n cap)
  c1 : w.cell? ⟨p, 1, none⟩ = some (.int .i64 s.at')
  c2 : w.cell? ⟨p, 2, none⟩ = some (.int .i64 s.err)
  f1 : w.frozen? ⟨p, 1, none⟩ = false
  f2 : w.frozen? ⟨p, 2, none⟩ = false
  le : s.at' ≤ n
section
variable {wB w w' : World} {p : Nat} {ao : Option Addr} {n cap : Nat} {xs : List Int} {s : RS}
theorem Rdr.lt (h : Rdr wB w p ao n cap xs s) : p < w.heap.size := World.block_lt_of_cell? w _ h.c0
theorem Rdr.below (h : Rdr wB w p ao n cap xs s) (hb : Below w.heap.size w w') : Rdr wB w' p ao n cap xs s :=
  ⟨h.base.trans (hb.mono h.base.size), h.hp, h.rd, (hb.cell (p := ⟨p, 0, none⟩) h.lt).trans h.c0, (hb.cell (p := ⟨p, 1, none⟩) h.lt).trans h.c1, (hb.cell (p := ⟨p, 2, none⟩) h.lt).trans h.c2,
   (hb.frozen (p := ⟨p, 1, none⟩) h.lt).trans h.f1, (hb.frozen (p := ⟨p, 2, none⟩) h.lt).trans h.f2, h.le⟩
theorem Rdr.drewN (h : Rdr wB w p ao n cap xs s) (k : Nat) : Rdr wB (w.drewN k) p ao n cap xs s := h.below (below_drewN _ _ _)
theorem Mv.drewN (p : Nat) (w : World) (k : Nat) : Mv p w (w.drewN k) := Mv.of (below_drewN _ _ _)
theorem Rdr.now (h : Rdr wB w p ao n cap xs s) : Rd .u8 w ao n cap xs := h.rd.below h.base
theorem Rdr.setAt (h : Rdr wB w p ao n cap xs s) (k : Nat) (hk : k ≤ n) : Rdr wB (w.setCell ⟨p, 1, none⟩ (.int .i64 k)) p ao n cap xs ⟨k, s.err⟩ := by
  have c0 := h.c0; have c1 := h.c1; have c2 := h.c2; have f1 := h.f1; have f2 := h.f2
  have hl := h.lt
  refine ⟨h.base.trans ((Mv.set p 1 w _).below h.hp h.base.size), h.hp, h.rd, ?_, ?_, ?_, ?_, ?_, hk⟩ <;> go_simp
theorem Rdr.setErr (h : Rdr wB w p ao n cap xs s) (e : Int) : Rdr wB (w.setCell ⟨p, 2, none⟩ (.int .i64 e)) p ao n cap xs ⟨s.at', e⟩ := by
  have c0 := h.c0; have c1 := h.c1; have c2 := h.c2; have f1 := h.f1; have f2 := h.f2
  have hl := h.lt
  refine ⟨h.base.trans ((Mv.set p 2 w _).below h.hp h.base.size), h.hp, h.rd, ?_, ?_, ?_, ?_, ?_, h.le⟩ <;> go_simp
theorem Rdr.both (h : Rdr wB w p ao n cap xs s) (i k : Nat) (hk : i + k ≤ n) (e : Int) :
    Rdr wB ((w.setCell ⟨p, 1, none⟩ (.int .i64 ((i : Int) + (k : Int)))).setCell ⟨p, 2, none⟩ (.int .i64 e)) p ao n cap xs ⟨i + k, e⟩ := by
  have := (h.setAt (i + k) hk).setErr e
  simpa using this
theorem Mv.both (p : Nat) (w : World) (u v : Value) : Mv p w ((w.setCell ⟨p, 1, none⟩ u).setCell ⟨p, 2, none⟩ v) := (Mv.set p 1 w u).trans (Mv.set p 2 _ v)
end

theorem rU_bd (xs : List Int) (s : RS) : 0 ≤ (rU xs s).1 ∧ (rU xs s).1 < 4294967296 := by
  unfold rU
  have := decU_spec (bits := 32) (xs := xs.drop s.at')
  split
  · exact ⟨this.1, this.2.1⟩
  · simp
theorem Own.mv {E : TypeId} {k : IntKind} {base p : Nat} {w w' : World} {v : Value} {xs : List Int} (h : Own E k base w v xs) (hm : Mv p w w') (hp : p < base) : Own E k base w' v xs := by
  refine ⟨h.row.kept (row := some p) ⟨hm.os, hm.tape, hm.output, hm.size, fun b hb hne => hm.block b hb (fun e => hne (by rw [e]))⟩ ?_, h.wf⟩
  cases hv : v.ownBlock with
  | none => exact .inl rfl
  | some b => exact .inr (fun e => by have := (h.lt b hv).1; cases e; omega)

theorem Mv.then {p B : Nat} {w w1 w2 : World} (h : Mv p w w1) (hb : Below B w1 w2) (hB : w.heap.size ≤ B) : Mv p w w2 :=
  ⟨hb.os.trans h.os, hb.tape.trans h.tape, hb.output.trans h.output, Nat.le_trans h.size hb.size, fun b hlt hne => (hb.block b (by omega)).trans (h.block b hlt hne)⟩
theorem Rdr.keep {wB w w' : World} {p B : Nat} {ao : Option Addr} {n cap : Nat} {xs : List Int} {s : RS} (h : Rdr wB w p ao n cap xs s) (hb : Below B w w') (hp : p < B) : Rdr wB w' p ao n cap xs s :=
  ⟨h.base.trans (hb.mono (Nat.le_of_lt (Nat.lt_of_le_of_lt h.hp hp))), h.hp, h.rd, (hb.cell (p := ⟨p, 0, none⟩) hp).trans h.c0, (hb.cell (p := ⟨p, 1, none⟩) hp).trans h.c1, (hb.cell (p := ⟨p, 2, none⟩) hp).trans h.c2,
   (hb.frozen (p := ⟨p, 1, none⟩) hp).trans h.f1, (hb.frozen (p := ⟨p, 2, none⟩) hp).trans h.f2, h.le⟩
/-- A list of the call's own, its length. -/
def lenV : Value → Nat
  | .slice _ n _ => n
  | _ => 0
theorem rLs_stop {xs : List Int} {m : Nat} {s : RS} (h : s.err ≠ 0) : rLs xs m s = ([], s) := by
  cases m with
  | zero => rfl
  | succ m => unfold rLs; rw [if_neg h]
theorem rLs_go {xs : List Int} {m : Nat} {s s3 : RS} {x : Int} (h : s.err = 0) (hx : rA 3 xs s = (x, s3)) : rLs xs (m + 1) s = (x :: (rLs xs m s3).1, (rLs xs m s3).2) := by
  rw [rLs, if_pos h, hx]
end Go.Proofs.Ytfambbpggodlkaa
