/- Slices of instructions: read, and of the call's own. Body of the laws. -/
import Derived.Test.YtfambbpggodlkaaInsCut
import Derived.Deep.AppendLies
namespace Go.Proofs.Ytfambbpggodlkaa
open Go.RowKit

theorem infoIns : (Try.prog.info? 39).map (fun i => (i.zero, i.size, i.bytes)) = some (some (.agg #[.int .i64 0, .int .i64 0, .int .i64 0, .slice none 0 0]), 4, 48) := by kernel_rfl

/-- An instruction's cells. -/
structure IP where
  op : Int
  a : Int
  b : Int
  lo : Option Addr
  ln : Nat
  lc : Nat
  l : List Int
def IP.cells (p : IP) : List Value := [.int .i64 p.op, .int .i64 p.a, .int .i64 p.b, .slice p.lo p.ln p.lc]
def IP.ins (p : IP) : Ins := ⟨p.op, p.a, p.b, p.l⟩
def okI (I : Ins) : Prop := -9223372036854775808 ≤ I.a ∧ I.a ≤ 9223372036854775807
instance : Inhabited Ins := ⟨⟨0, 0, 0, []⟩⟩
instance : Inhabited IP := ⟨⟨0, 0, 0, none, 0, 0, []⟩⟩

/-- A slice that reads as these instructions; C: what is known of where their lists lie. -/
structure RdP (w : World) (C : Addr → Prop) (ao : Option Addr) (n cap : Nat) (is : List Ins) : Prop where
  len : is.length = n
  le : n ≤ cap
  max : cap ≤ maxLen
  cell : ∀ i, i < n → ∃ b off lo ln lc, ao = some ⟨b, off, none⟩ ∧ w.cell? ⟨b, off + i * 4, none⟩ = some (.int .i64 (is.getD i default).op) ∧ w.cell? ⟨b, off + i * 4 + 1, none⟩ = some (.int .i64 (is.getD i default).a) ∧
    w.cell? ⟨b, off + i * 4 + 2, none⟩ = some (.int .i64 (is.getD i default).b) ∧ w.cell? ⟨b, off + i * 4 + 3, none⟩ = some (.slice lo ln lc) ∧ Rd .i64 w lo ln lc (is.getD i default).l ∧ ∀ ad, lo = some ad → C ad
  ok : ∀ i, i < n → okI (is.getD i default)
theorem RdP.below {w w' : World} {C : Addr → Prop} {ao : Option Addr} {n cap : Nat} {is : List Ins} (h : RdP w C ao n cap is) (hb : Below w.heap.size w w') : RdP w' C ao n cap is := by
  refine ⟨h.len, h.le, h.max, fun i hi => ?_, h.ok⟩
  obtain ⟨b, off, lo, ln, lc, e, c0, c1, c2, c3, hr, hC⟩ := h.cell i hi
  have hlt := World.block_lt_of_cell? w _ c0
  exact ⟨b, off, lo, ln, lc, e, (hb.cell (p := ⟨b, off + i * 4, none⟩) hlt).trans c0, (hb.cell (p := ⟨b, off + i * 4 + 1, none⟩) hlt).trans c1, (hb.cell (p := ⟨b, off + i * 4 + 2, none⟩) hlt).trans c2, (hb.cell (p := ⟨b, off + i * 4 + 3, none⟩) hlt).trans c3, hr.below hb, hC⟩

/-- A slice of instructions that the call itself has made; their lists lie elsewhere. -/
def OwnP (B : Nat) (w : World) (v : Value) (is : List Ins) : Prop :=
  ∃ ps : List IP, ps.map IP.ins = is ∧ w.ownsRow B 39 4 v ps.length (ps.flatMap IP.cells) ∧ ∀ p ∈ ps, Rd .i64 w p.lo p.ln p.lc p.l ∧ ∀ ad, p.lo = some ad → ad.block < w.heap.size ∧ v.ownBlock ≠ some ad.block
theorem OwnP.nil (B : Nat) (w : World) : OwnP B w (.slice none 0 0) [] := ⟨[], rfl, World.ownsRow_nil w B _ 4, fun _ h => by cases h⟩

theorem addr_block (ad : Addr) (i : Nat) : (ad.add i).block = ad.block := by
  unfold Addr.add
  split <;> rfl
/-- A list stays where another block grows. -/
theorem Rd.grown {k : IntKind} {w w' : World} {ao : Option Addr} {n cap : Nat} {xs : List Int} {row : Option Nat} (h : Rd k w ao n cap xs) (hg : w.grownBy w' row) (hne : ∀ ad, ao = some ad → row ≠ some ad.block) : Rd k w' ao n cap xs :=
  ⟨h.len, h.le, h.max, h.nil, fun ad ha i hi => hg.cell (h.cell ad ha i hi) (fun e => hne ad ha (by rw [← e, addr_block])), h.wf⟩

theorem flat_len : ∀ ps : List IP, (ps.flatMap IP.cells).length = ps.length * 4
  | [] => rfl
  | p :: r => by
    have := flat_len r
    simp [IP.cells] at this ⊢
    omega
theorem flat_at : ∀ (ps : List IP) (i j : Nat) (hi : i < ps.length), j < 4 → (ps.flatMap IP.cells)[i * 4 + j]? = (ps[i]'hi).cells[j]?
  | p :: r, 0, j, _, hj => by
    rw [List.flatMap_cons, List.getElem?_append_left (by simp [IP.cells]; omega)]
    simp
  | p :: r, i + 1, j, hi, hj => by
    rw [List.flatMap_cons, List.getElem?_append_right (by simp [IP.cells]; omega)]
    have := flat_at r i j (by simpa using hi) hj
    simp only [List.getElem_cons_succ]
    rw [← this]
    congr 1
    simp [IP.cells]
    omega

/-- What is of the call's own is read. -/
theorem OwnP.rd {B : Nat} {w : World} {v : Value} {is : List Ins} (h : OwnP B w v is) (ho : ∀ I ∈ is, okI I) : ∃ ao cap, v = .slice ao is.length cap ∧ RdP w (fun ad => ad.block < w.heap.size) ao is.length cap is := by
  obtain ⟨ps, rfl, hrow, hin⟩ := h
  rcases hrow.2 with ⟨rfl, h0⟩ | ⟨g, cap, cur, rfl, hb, hg, hle, hmax, hsz, htake⟩
  · have hp : ps = [] := List.eq_nil_of_length_eq_zero h0
    subst hp
    exact ⟨none, 0, rfl, rfl, Nat.le_refl _, Nat.zero_le _, fun i hi => by simp at hi, fun i hi => by simp at hi⟩
  · refine ⟨some ⟨g, 0, none⟩, cap, by simp, by simp, by simpa using hle, hmax, fun i hi => ?_, fun i hi => ?_⟩
    · have hi' : i < ps.length := by simpa using hi
      have hgd : (ps.map IP.ins).getD i default = (ps[i]).ins := by simp [List.getD, hi']
      obtain ⟨hr, hC⟩ := hin ps[i] (List.getElem_mem hi')
      have hc := fun j v => hrow.cells (g := g) rfl (i * 4 + j) v
      simp only [Addr.add_lit, Nat.zero_add] at hc
      refine ⟨g, 0, (ps[i]).lo, (ps[i]).ln, (ps[i]).lc, rfl, ?_, ?_, ?_, ?_, ?_, fun ad ha => (hC ad ha).1⟩
      · rw [hgd, Nat.zero_add]
        exact hc 0 _ (by rw [flat_at ps i 0 hi' (by decide)]; rfl)
      · rw [hgd, Nat.zero_add]
        exact hc 1 _ (by rw [flat_at ps i 1 hi' (by decide)]; rfl)
      · rw [hgd, Nat.zero_add]
        exact hc 2 _ (by rw [flat_at ps i 2 hi' (by decide)]; rfl)
      · rw [Nat.zero_add]
        exact hc 3 _ (by rw [flat_at ps i 3 hi' (by decide)]; rfl)
      · rw [hgd]
        exact hr
    · refine ho _ ?_
      have hi' : i < (ps.map IP.ins).length := hi
      simp only [List.getD, List.getElem?_eq_getElem hi', Option.getD_some]
      exact List.getElem_mem hi'

/-- One more: what an append of one instruction leaves. -/
theorem OwnP.step {B H : Nat} {w w' : World} {v : Value} {is : List Ins} {g cap : Nat} {ps : List IP} (hps : ps.map IP.ins = is) (hin : ∀ p ∈ ps, Rd .i64 w p.lo p.ln p.lc p.l ∧ ∀ ad, p.lo = some ad → ad.block < w.heap.size ∧ v.ownBlock ≠ some ad.block)
    (p : IP) (hp : Rd .i64 w p.lo p.ln p.lc p.l) (hpb : ∀ ad, p.lo = some ad → ad.block < w.heap.size ∧ v.ownBlock ≠ some ad.block)
    (hrow' : w'.ownsRow B 39 4 (.slice (some ⟨g, 0, none⟩) (ps.length + 1) cap) (ps.length + 1) (ps.flatMap IP.cells ++ p.cells)) (hgr : w.grownBy w' v.ownBlock) (hg : v.ownBlock = some g ∨ g = H) (hH : w.heap.size = H) :
    OwnP B w' (.slice (some ⟨g, 0, none⟩) (ps.length + 1) cap) (is ++ [p.ins]) := by
  subst hps
  refine ⟨ps ++ [p], by simp, by simpa using hrow', fun x hx => ?_⟩
  have hx' : Rd .i64 w x.lo x.ln x.lc x.l ∧ ∀ ad, x.lo = some ad → ad.block < w.heap.size ∧ v.ownBlock ≠ some ad.block := by
    rcases List.mem_append.1 hx with hx | hx
    · exact hin x hx
    · simp at hx
      subst hx
      exact ⟨hp, hpb⟩
  refine ⟨hx'.1.grown hgr (fun ad ha => (hx'.2 ad ha).2), fun ad ha => ?_⟩
  obtain ⟨h1, h2⟩ := hx'.2 ad ha
  refine ⟨Nat.lt_of_lt_of_le h1 hgr.size, fun e => ?_⟩
  have eg : g = ad.block := by simpa [Value.ownBlock] using e
  rcases hg with hg | hg
  · exact h2 (by rw [hg, eg])
  · omega
end Go.Proofs.Ytfambbpggodlkaa
