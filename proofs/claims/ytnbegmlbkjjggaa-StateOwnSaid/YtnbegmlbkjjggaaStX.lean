/- state: what its laws ask of the package's functions, in one word (StSpec); what a store of a number into a copy leaves. -/
import Derived.Test.YtnbegmlbkjjggaaStC
import Derived.Test.YtnbegmlbkjjggaaStQ
namespace Go.Proofs.Ytnbegmlbkjjggaa
open Go.RowKit
set_option linter.unusedVariables false

def wfP (v : Int × Int) : Prop := (Lit.int .i64 v.1).wf = true ∧ (Lit.int .i64 v.2).wf = true
def wfF (f : Fm) : Prop := (∀ v ∈ f.ls, wfP v) ∧ (∀ v ∈ f.lb, wfP v) ∧ (Lit.int .i64 f.fn).wf = true ∧ (Lit.int .i64 f.pc).wf = true ∧ (Lit.int .i64 f.base).wf = true
/-- A state's numbers are numbers of Go. -/
def wfS (S : St) : Prop := (∀ v ∈ S.vs, wfP v) ∧ (∀ f ∈ S.fs, wfF f) ∧ (Lit.int .i64 S.asks).wf = true
theorem RdG.wf2 {w : World} {ao : Option Addr} {n cap : Nat} {xs : List (Int × Int)} (h : RdG 2 PaR w ao n cap xs) : ∀ v ∈ xs, wfP v := by
  intro v hv
  obtain ⟨i, hi, rfl⟩ := List.mem_iff_getElem.1 hv
  obtain ⟨_, _, _, _, _, ⟨_, h1, h2⟩, _⟩ := h.cell i _ (List.getElem?_eq_getElem hi)
  exact ⟨h1, h2⟩
theorem StR.wf {V : SV} {S : St} {w : World} (h : StR V S w) : wfS S := by
  refine ⟨h.v.wf2, fun f hf => ?_, h.a⟩
  obtain ⟨i, hi, rfl⟩ := List.mem_iff_getElem.1 hf
  obtain ⟨_, _, _, _, _, ⟨_, _, _, _, _, _, _, r1, r2, h1, h2, h3⟩, _⟩ := h.f.cell i _ (List.getElem?_eq_getElem hi)
  exact ⟨r1.wf2, r2.wf2, h1, h2, h3⟩
/-- None of a row's cells is frozen. -/
def Unf (w : World) (ao : Option Addr) (k : Nat) : Prop := ∀ b off, ao = some ⟨b, off, none⟩ → ∀ i, i < k → w.frozen? ⟨b, off + i, none⟩ = false
theorem Unf.set {w : World} {ao : Option Addr} {k : Nat} (h : Unf w ao k) (a : Addr) (u : Value) : Unf (w.setCell a u) ao k := fun b off e i hi => by
  rw [World.frozen?_setCell]
  exact h b off e i hi
def FrU (w : World) (cs : List Value) (f : Fm) : Prop :=
  ∃ a n c a' n' c', cs = [.int .i64 f.fn, .int .i64 f.pc, .slice a n c, .int .i64 f.base, .slice a' n' c'] ∧ RdG 2 PaR w a n c f.ls ∧ RdG 2 PaR w a' n' c' f.lb ∧ Unf w a (n * 2) ∧ Unf w a' (n' * 2) ∧
    (Lit.int .i64 f.fn).wf = true ∧ (Lit.int .i64 f.pc).wf = true ∧ (Lit.int .i64 f.base).wf = true
/-- A state that may be written. -/
structure StU (V : SV) (S : St) (w : World) : Prop where
  v : RdG 2 PaR w V.vo V.vn V.vc S.vs
  f : RdG 5 FrU w V.fo V.fn V.fc S.fs
  a : (Lit.int .i64 S.asks).wf = true
  uv : Unf w V.vo (V.vn * 2)
  uf : Unf w V.fo (V.fn * 5)
theorem StU.r {V : SV} {S : St} {w : World} (h : StU V S w) : StR V S w :=
  ⟨h.v, ⟨h.f.len, h.f.le, h.f.max, h.f.nil, fun i x hi => by
    obtain ⟨b, off, cs, e, hl, ⟨a1, n1, c1, a2, n2, c2, e2, r1, r2, _, _, h3⟩, hc⟩ := h.f.cell i x hi
    exact ⟨b, off, cs, e, hl, ⟨a1, n1, c1, a2, n2, c2, e2, r1, r2, h3⟩, hc⟩⟩, h.a⟩
theorem unf_same {w w' : World} {ao : Option Addr} {k : Nat} (h : Unf w ao k) (hb : ∀ b off, ao = some ⟨b, off, none⟩ → 0 < k → w'.heap[b]? = w.heap[b]?) : Unf w' ao k := fun b off e i hi =>
  (World.frozen?_of_block (a := ⟨b, off + i, none⟩) (hb b off e (by omega))).trans (h b off e i hi)
theorem RdG.unf {w w' : World} {ao : Option Addr} {n cap : Nat} {xs : List (Int × Int)} (h : RdG 2 PaR w ao n cap xs) (hu : Unf w ao (n * 2)) (hb : Below w.heap.size w w') : Unf w' ao (n * 2) :=
  unf_same hu fun b off e hk => by
    obtain ⟨b', off', x, y, e', _, hc, _⟩ := h.at2 (i := 0) (by omega)
    rw [e] at e'
    cases e'
    exact hb.block b (World.block_lt_of_cell? w _ hc)
/-- It stays so where memory grows. -/
theorem StU.below {V : SV} {S : St} {w w' : World} (h : StU V S w) (hb : Below w.heap.size w w') : StU V S w' := by
  refine ⟨h.v.below2 hb, ⟨h.f.len, h.f.le, h.f.max, h.f.nil, fun i x hi => ?_⟩, h.a, h.v.unf h.uv hb, unf_same h.uf fun b off e hk => ?_⟩
  · obtain ⟨b, off, cs, e, hl, ⟨a1, n1, c1, a2, n2, c2, e2, r1, r2, u1, u2, h3⟩, hc⟩ := h.f.cell i x hi
    exact ⟨b, off, cs, e, hl, ⟨a1, n1, c1, a2, n2, c2, e2, r1.below2 hb, r2.below2 hb, r1.unf u1 hb, r2.unf u2 hb, h3⟩, fun j v hj => (hb.cell (World.block_lt_of_cell? w _ (hc j v hj))).trans (hc j v hj)⟩
  · have hl : 0 < S.fs.length := by rw [h.f.len]; omega
    obtain ⟨b', off', cs, e', hl5, _, hc⟩ := h.f.cell 0 _ (List.getElem?_eq_getElem hl)
    rw [e] at e'
    cases e'
    exact hb.block b (World.block_lt_of_cell? w _ (hc 0 cs[0] (List.getElem?_eq_getElem (by omega))))

/-! ### A store of a number -/
theorem cell_poke {w : World} {a c : Addr} {x y : Int} {u : Value} (ha : w.cell? a = some (.int .i64 y)) (hc : w.cell? c = some u) :
    (w.setCell a (.int .i64 x)).cell? c = some u ∨ ((∃ z, u = .int .i64 z) ∧ (w.setCell a (.int .i64 x)).cell? c = some (.int .i64 x)) := by
  by_cases e : a = c
  · subst e
    rw [ha] at hc
    cases hc
    exact .inr ⟨⟨y, rfl⟩, World.cell?_setCell_same _ _ _ ha⟩
  · exact .inl ((World.cell?_setCell_other _ _ _ _ e).trans hc)
theorem int_poke {w : World} {a c : Addr} {x y z : Int} (ha : w.cell? a = some (.int .i64 y)) (hx : (Lit.int .i64 x).wf = true) (hc : w.cell? c = some (.int .i64 z)) (hz : (Lit.int .i64 z).wf = true) :
    ∃ z', (w.setCell a (.int .i64 x)).cell? c = some (.int .i64 z') ∧ (Lit.int .i64 z').wf = true := by
  rcases cell_poke (x := x) ha hc with h | ⟨_, h⟩
  · exact ⟨z, h, hz⟩
  · exact ⟨x, h, hx⟩
theorem slice_poke {w : World} {a c : Addr} {x y : Int} {o : Option Addr} {n k : Nat} (ha : w.cell? a = some (.int .i64 y)) (hc : w.cell? c = some (.slice o n k)) : (w.setCell a (.int .i64 x)).cell? c = some (.slice o n k) := by
  rcases cell_poke (x := x) ha hc with h | ⟨⟨z, h⟩, _⟩
  · exact h
  · cases h
theorem rdG_poke {α : Type} [Inhabited α] {s : Nat} {R : World → List Value → α → Prop} {w w' : World} {ao : Option Addr} {n cap : Nat} {xs : List α} (h : RdG s R w ao n cap xs)
    (hp : ∀ b off cs x, cs.length = s → R w cs x → (∀ j v, cs[j]? = some v → w.cell? ⟨b, off + j, none⟩ = some v) → ∃ cs' x', cs'.length = s ∧ R w' cs' x' ∧ ∀ j v, cs'[j]? = some v → w'.cell? ⟨b, off + j, none⟩ = some v) :
    ∃ xs' : List α, RdG s R w' ao n cap xs' := by
  have key : ∀ i : Nat, ∃ p : List Value × α, i < n → p.1.length = s ∧ R w' p.1 p.2 ∧ ∃ b off, ao = some ⟨b, off, none⟩ ∧ ∀ j v, p.1[j]? = some v → w'.cell? ⟨b, off + i * s + j, none⟩ = some v := by
    intro i
    by_cases hi : i < n
    · have hl : i < xs.length := by rw [h.len]; exact hi
      obtain ⟨b, off, cs, e, hl, hR, hc⟩ := h.cell i _ (List.getElem?_eq_getElem hl)
      obtain ⟨cs', x', h1, h2, h3⟩ := hp b (off + i * s) cs _ hl hR hc
      exact ⟨(cs', x'), fun _ => ⟨h1, h2, b, off, e, h3⟩⟩
    · exact ⟨default, fun h => absurd h hi⟩
  obtain ⟨f, hf⟩ := Classical.axiomOfChoice key
  refine ⟨(List.range n).map fun i => (f i).2, by simp, h.le, h.max, h.nil, fun i x hi => ?_⟩
  have hin : i < n := by have := (List.getElem?_eq_some_iff.1 hi).1; simpa using this
  have hx : x = (f i).2 := by simp [hin] at hi; exact hi.symm
  subst hx
  obtain ⟨h1, h2, b, off, e, h3⟩ := hf i hin
  exact ⟨b, off, (f i).1, e, h1, h2, h3⟩
theorem RdG.poke2 {w : World} {a : Addr} {x y : Int} (ha : w.cell? a = some (.int .i64 y)) (hx : (Lit.int .i64 x).wf = true) {ao : Option Addr} {n cap : Nat} {xs : List (Int × Int)} (h : RdG 2 PaR w ao n cap xs) : ∃ xs', RdG 2 PaR (w.setCell a (.int .i64 x)) ao n cap xs' := by
  refine rdG_poke h fun b off cs v hl hR hc => ?_
  obtain ⟨rfl, h1, h2⟩ := hR
  obtain ⟨z1, c1, w1⟩ := int_poke ha hx (hc 0 _ rfl) h1
  obtain ⟨z2, c2, w2⟩ := int_poke ha hx (hc 1 _ rfl) h2
  refine ⟨[.int .i64 z1, .int .i64 z2], (z1, z2), rfl, ⟨rfl, w1, w2⟩, fun j v hj => ?_⟩
  match j, hj with
  | 0, hj => cases hj; exact c1
  | 1, hj => cases hj; exact c2
/-- A state in which a number is stored, wherever, is a state. -/
theorem StU.poke {V : SV} {S : St} {w : World} (h : StU V S w) {a : Addr} {x y : Int} (ha : w.cell? a = some (.int .i64 y)) (hx : (Lit.int .i64 x).wf = true) : ∃ S', StU V S' (w.setCell a (.int .i64 x)) ∧ S'.asks = S.asks := by
  obtain ⟨vs, hv⟩ := RdG.poke2 ha hx h.v
  obtain ⟨fs, hf⟩ : ∃ fs, RdG 5 FrU (w.setCell a (.int .i64 x)) V.fo V.fn V.fc fs := by
    refine rdG_poke h.f fun b off cs f hl hR hc => ?_
    obtain ⟨a1, n1, k1, a2, n2, k2, rfl, r1, r2, u1, u2, w1, w2, w3⟩ := hR
    obtain ⟨z0, c0, w0⟩ := int_poke ha hx (hc 0 _ rfl) w1
    obtain ⟨z1, c1, w1⟩ := int_poke ha hx (hc 1 _ rfl) w2
    obtain ⟨z3, c3, w3⟩ := int_poke ha hx (hc 3 _ rfl) w3
    have c2 := slice_poke (x := x) ha (hc 2 _ rfl)
    have c4 := slice_poke (x := x) ha (hc 4 _ rfl)
    obtain ⟨l1, r1⟩ := r1.poke2 ha hx
    obtain ⟨l2, r2⟩ := r2.poke2 ha hx
    refine ⟨[.int .i64 z0, .int .i64 z1, .slice a1 n1 k1, .int .i64 z3, .slice a2 n2 k2], ⟨z0, z1, l1, z3, l2⟩, rfl, ⟨_, _, _, _, _, _, rfl, r1, r2, u1.set _ _, u2.set _ _, w0, w1, w3⟩, fun j v hj => ?_⟩
    match j, hj with
    | 0, hj => cases hj; exact c0
    | 1, hj => cases hj; exact c1
    | 2, hj => cases hj; exact c2
    | 3, hj => cases hj; exact c3
    | 4, hj => cases hj; exact c4
  exact ⟨⟨vs, fs, S.asks⟩, ⟨hv, hf, h.a, h.uv.set _ _, h.uf.set _ _⟩, rfl⟩

/-- Its rows are not too long to be copied. -/
def tameS (S : St) : Prop := S.vs.length ≤ 1000000 ∧ S.fs.length ≤ 1000000 ∧ ∀ f ∈ S.fs, f.ls.length ≤ 1000000 ∧ f.lb.length ≤ 1000000
theorem tame_cut (S : St) : tameS (cutS S) := by
  refine ⟨?_, ?_, fun f hf => ?_⟩
  · have := List.length_take_le 30 S.vs
    simp only [cutS]; omega
  · have := List.length_take_le 34 S.fs
    simp only [cutS, List.length_map]; omega
  · simp only [cutS, List.mem_map] at hf
    obtain ⟨g, _, rfl⟩ := hf
    have h1 := List.length_take_le 34 g.ls
    have h2 := List.length_take_le 42 g.lb
    simp only [cutF]
    omega
/-- What state's laws ask of its functions. -/
structure StSpec where
  enc : St → List Int
  dec : List Int → Option St
  bad : ∀ S, mayS S = false → enc S = []
  len : ∀ S, wfS S → (enc S).length ≤ 1000000
  byt : ∀ S, ∀ x ∈ enc S, 0 ≤ x ∧ x ≤ 255
  good : ∀ S, wfS S → mayS S = true → enc S ≠ [] ∧ dec (enc S) = some S
  back : ∀ b S, (∀ x ∈ b, 0 ≤ x ∧ x ≤ 255) → dec b = some S → mayS S = true ∧ enc S = b ∧ wfS S
  may_to : ∀ V S w, StR V S w → Calls Try.prog 11 #[.agg (V.cells S).toArray] w fun e w' => e = .returned (.bool (mayS S)) ∧ Below w.heap.size w w'
  eq_to : ∀ V V' S S' t w, (t = true ↔ S = S') → StR V S w → StR V' S' w → Calls Try.prog 13 #[.agg (V.cells S).toArray, .agg (V'.cells S').toArray] w fun e w' => e = .returned (.bool t) ∧ Below w.heap.size w w'
  enc_to : ∀ V S w, StR V S w → Calls Try.prog 10 #[.agg (V.cells S).toArray] w fun e w' => ∃ v, e = .returned v ∧ Own 5 .u8 w.heap.size w' v (enc S) ∧ Below w.heap.size w w'
  dec_to : ∀ ao n cap b w, Rd .u8 w ao n cap b → n ≤ 1000002 → Calls Try.prog 15 #[.slice ao n cap] w fun e w' => ∃ V S c, e = .returned (.tuple #[.agg (SV.cells V S).toArray, .int .i64 c]) ∧ ((dec b = some S ∧ c = 0) ∨ (dec b = none ∧ S = ⟨[], [], 0⟩ ∧ c = 11)) ∧ StR V S w' ∧ Below w.heap.size w w'
  copy_to : ∀ V S w, tameS S → StR V S w → Calls Try.prog 18 #[.agg (V.cells S).toArray] w fun e w' => ∃ V', e = .returned (.agg (V'.cells S).toArray) ∧ Bx (fun b => w.heap.size ≤ b ∧ b < w'.heap.size) w' (StU V' S) ∧ Below w.heap.size w w'
theorem str_eq' {a b : ByteArray} (h : a.toList = b.toList) : a = b := by
  rw [ByteArray.toList_eq, ByteArray.toList_eq] at h
  cases a with
  | mk a =>
    cases b with
    | mk b => exact congrArg ByteArray.mk (Array.ext' h)
/-- Two valid states have one text just if they are one. -/
theorem StSpec.text (X : StSpec) {S S' : St} {u : Bool} (hu : u = true ↔ S = S') (h : wfS S) (h' : wfS S') (m : mayS S = true) : ((strOfNums (X.enc S')).toList == (strOfNums (X.enc S)).toList) = u := by
  rw [Bool.eq_iff_iff, beq_iff_eq, hu]
  constructor
  · intro e
    have e2 := strOfNums_inj (X.byt S') (X.byt S) (str_eq' e)
    have g := X.good S h m
    cases hm : mayS S' with
    | false => exact absurd (e2 ▸ X.bad S' hm) g.1
    | true =>
      have g' := (X.good S' h' hm).2
      rw [e2, g.2] at g'
      exact Option.some.inj g'
  · rintro rfl
    rfl
theorem StSpec.nil (X : StSpec) : X.dec [] = none := by
  cases h : X.dec [] with
  | none => rfl
  | some S =>
    obtain ⟨h1, h2, h3⟩ := X.back [] S (fun _ h => by cases h) h
    exact absurd h2 (X.good S h3 h1).1
end Go.Proofs.Ytnbegmlbkjjggaa
