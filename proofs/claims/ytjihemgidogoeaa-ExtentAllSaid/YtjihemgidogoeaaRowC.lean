/- Rows of records of the call's own, of which part of one record is written over; arrays as values; maps whose values are told as they stand. No program is named here. -/
import Derived.Test.YtjihemgidogoeaaBlk
import Derived.Test.YtjihemgidogoeaaCodeRows
import Derived.Maps.OwnSet
import Derived.Maps.OwnOps
import Derived.WideKeyElems
namespace Go.Proofs.Ytjihemgidogoeaa
open Go.RowKit Go.Maps
set_option linter.unusedVariables false

theorem splice_nil_at {α : Type} (L vs : List α) : splice L 0 vs = vs ++ L.drop vs.length := by simp [splice]
theorem splice_behind {α : Type} (r L vs : List α) (k : Nat) : splice (r ++ L) (r.length + k) vs = r ++ splice L k vs := by
  simp only [splice]
  rw [List.take_append, List.take_of_length_le (by omega), List.drop_append, List.drop_eq_nil_of_le (by omega)]
  simp only [List.nil_append, List.append_assoc]
  rw [show r.length + k - r.length = k by omega, show r.length + k + vs.length - r.length = k + vs.length by omega]
/-- The record r with its first cells written over. -/
def over (vs r : List Value) : List Value := vs ++ r.drop vs.length
theorem over_len (vs r : List Value) (h : vs.length ≤ r.length) : (over vs r).length = r.length := by simp [over]; omega
theorem over_all (vs r : List Value) (h : r.length ≤ vs.length) : over vs r = vs := by simp [over, List.drop_eq_nil_of_le h]
theorem flat_splice (s : Nat) : ∀ (rs : List (List Value)) (i : Nat) (vs : List Value), (∀ r ∈ rs, r.length = s) → i < rs.length → vs.length ≤ s → (rs.set i (over vs (rs.getD i []))).flatten = splice rs.flatten (i * s) vs
  | r :: q, 0, vs, hw, _, hv => by
    have hr := hw r (by simp)
    rw [Nat.zero_mul, splice_nil_at]
    simp only [List.set_cons_zero, List.flatten_cons, List.getD_cons_zero, over, List.append_assoc]
    rw [List.drop_append_of_le_length (by omega)]
  | r :: q, i + 1, vs, hw, hi, hv => by
    have hr := hw r (by simp)
    have ih := flat_splice s q i vs (fun x hx => hw x (by simp [hx])) (by simpa using hi) hv
    rw [show (i + 1) * s = r.length + i * s by rw [hr, Nat.add_mul]; omega]
    simp only [List.flatten_cons]
    rw [splice_behind, ← ih]
    simp
theorem take_splice {α : Type} (L vs : List α) (o k : Nat) (h : o + vs.length ≤ k) (hk : k ≤ L.length) : (splice L o vs).take k = splice (L.take k) o vs := by
  apply List.ext_getElem?
  intro j
  simp only [splice, List.getElem?_take, List.getElem?_append, List.getElem?_drop, List.length_take]
  have e1 : min o L.length = o := by omega
  have e2 : min o (min k L.length) = o := by omega
  rw [e1, e2]
  by_cases h1 : j < o
  · simp [h1, show j < k by omega]
  · by_cases h2 : j - o < vs.length
    · simp [h1, h2, show j < k by omega]
    · simp [h1, h2, show o + vs.length + (j - o - vs.length) = j by omega]

section
variable {E : TypeId} {s B K : Nat} {w w' : World} {v : Value} {rs : List (List Value)}
/-- What lies in the row's block. -/
theorem OwnC.open {g n cap : Nat} (h : OwnC E s B w (.slice (some ⟨g, 0, none⟩) n cap) rs) : ∃ cur : List Value, Blk w g E cur ∧ n = rs.length ∧ n ≤ cap ∧ cap ≤ maxLen ∧ cur.length = cap * s ∧ cur.take (n * s) = rs.flatten ∧ B ≤ g := by
  rcases h.row.2 with ⟨h', _⟩ | ⟨g', cap', cur, h', hb, hg, hle, hmax, hsz, htake⟩
  · simp at h'
  · simp only [Value.slice.injEq, Option.some.injEq, Addr.mk.injEq] at h'
    obtain ⟨⟨rfl, _⟩, rfl, rfl⟩ := h'
    exact ⟨cur.toList, by unfold Blk; simpa using hg, rfl, hle, hmax, by simpa using hsz, htake, hb⟩
theorem OwnC.shut {g cap : Nat} {cur : List Value} (hb : Blk w g E cur) (hle : rs.length ≤ cap) (hmax : cap ≤ maxLen) (hsz : cur.length = cap * s) (ht : cur.take (rs.length * s) = rs.flatten) (hB : B ≤ g) (hw : ∀ r ∈ rs, r.length = s) : OwnC E s B w (.slice (some ⟨g, 0, none⟩) rs.length cap) rs :=
  ⟨⟨flat_len' s rs hw, .inr ⟨g, cap, cur.toArray, rfl, hB, hb, hle, hmax, by simpa using hsz, by simpa using ht⟩⟩, hw⟩
theorem OwnC.range {g n cap : Nat} (h : OwnC E s B w (.slice (some ⟨g, 0, none⟩) n cap) rs) {i : Nat} (hi : i < rs.length) : w.rangeAt g (i * s) (rs.getD i []) := fun j u hj => (h.cell i j hi hj).1
theorem OwnC.there {g n cap : Nat} (h : OwnC E s B w (.slice (some ⟨g, 0, none⟩) n cap) rs) {i : Nat} (hi : i < rs.length) : w.there g (i * s) s := fun j hj => by
  have hmem : rs.getD i [] ∈ rs := by
    simp only [List.getD, List.getElem?_eq_getElem hi, Option.getD_some]
    exact List.getElem_mem hi
  have hl := h.wid _ hmem
  have := h.cell i j hi (List.getElem?_eq_getElem (by omega))
  exact ⟨by rw [this.1]; rfl, this.2.1⟩
/-- The first cells of record i are written over. -/
theorem OwnC.over' {g n cap : Nat} (h : OwnC E s B w (.slice (some ⟨g, 0, none⟩) n cap) rs) {i : Nat} (hi : i < rs.length) {vs : List Value} (hv : vs.length ≤ s)
    (hw : ∀ cur, Blk w g E cur → Blk w' g E (splice cur (i * s) vs)) : OwnC E s B w' (.slice (some ⟨g, 0, none⟩) n cap) (rs.set i (over vs (rs.getD i []))) := by
  obtain ⟨cur, hb, rfl, hle, hmax, hsz, ht, hB⟩ := h.open
  have hfit : i * s + vs.length ≤ rs.length * s := by
    have := Nat.mul_le_mul_right s (show i + 1 ≤ rs.length by omega)
    rw [Nat.add_mul] at this
    omega
  have hcs : rs.length * s ≤ cap * s := Nat.mul_le_mul_right s hle
  have hln : (rs.set i (over vs (rs.getD i []))).length = rs.length := by simp
  have hmem : rs.getD i [] ∈ rs := by
    simp only [List.getD, List.getElem?_eq_getElem hi, Option.getD_some]
    exact List.getElem_mem hi
  have hwid : ∀ r ∈ rs.set i (over vs (rs.getD i [])), r.length = s := fun r hr => by
    rcases List.mem_or_eq_of_mem_set hr with hr | rfl
    · exact h.wid r hr
    · rw [over_len _ _ (by rw [h.wid _ hmem]; exact hv)]; exact h.wid _ hmem
  have := OwnC.shut (rs := rs.set i (over vs (rs.getD i []))) (s := s) (B := B) (cap := cap) (hw _ hb) (by omega) hmax (by rw [length_splice _ _ _ (by omega)]; exact hsz) (by rw [hln, take_splice _ _ _ _ hfit (by omega), ht, flat_splice s rs i vs h.wid hi hv]) hB hwid
  rwa [hln] at this
end

/-- A map's value is told as it stands. -/
abbrev RV : Value → Option (DataW Value × List MemPlace) := fun v => some (.held v, [])
abbrev key (n : Int) : Lit := .int .i64 n
theorem key_ne {a b : Int} (h : a ≠ b) : key a ≠ key b := fun e => by cases e; exact h rfl
theorem key_is (n : Int) : WideAt.IsKeyLit (key n) := by trivial
theorem Blk.ne_map {w : World} {g b : Nat} {t : TypeId} {cs : List Value} {H : Type} {P : Program} {k : TypeId} {R : Value → Option (DataW H × List MemPlace)} {n : Nat} {D : DataW H} (h : Blk w g t cs) (h' : w.ownsMap P k R b n D) : g ≠ b := by
  rintro rfl
  obtain ⟨es, clock, hb, _⟩ := h'
  unfold Blk at h
  rw [h] at hb
  cases hb
theorem ownsMap_stay {w w' : World} {b : Nat} {H : Type} {P : Program} {k : TypeId} {R : Value → Option (DataW H × List MemPlace)} {n : Nat} {D : DataW H} (h : w.ownsMap P k R b n D) (e : w'.heap[b]? = w.heap[b]?) : w'.ownsMap P k R b n D := by
  obtain ⟨es, clock, hb, F, hs, hD⟩ := h
  exact ⟨es, clock, e.trans hb, F, hs, hD⟩
theorem ownsMap_size {w : World} {b : Nat} {H : Type} {P : Program} {k : TypeId} {R : Value → Option (DataW H × List MemPlace)} {n : Nat} {D : DataW H} (h : w.ownsMap P k R b n D) : w.ownsMap P k R b (Maps.size D) D := by
  obtain ⟨es, clock, hb, F, hs, rfl⟩ := h
  exact ⟨es, clock, hb, F, by rw [size_eq, length_sorted]; simp, rfl⟩
/-- 'm[k]' of values that are told as they stand. -/
theorem ownsMap_look {P : Program} {w : World} {k t e : TypeId} {b n : Nat} {D : DataW Value} (h : w.ownsMap P k RV b n D) (K : Keyed P k) (ht : P.underlying t = some (.map k e)) {z : Value} (hz : (zeroValue e).run P w = .ok z w) {ky : Value} {kl : Lit} (hkey : keyOf P k ky = some kl) {x : Value} (hx : D.atKey kl (.held z) = .held x) :
    (Instr.lookup t (.map (some b)) ky false).run P w = .ok x w := by
  obtain ⟨v, ps, hr, hv⟩ := h.lookup K ht hz (R := RV) rfl hkey
  rw [hx] at hv
  simp at hv
  rw [hr, hv.1]
theorem ownsMap_look_ok {P : Program} {w : World} {k t e : TypeId} {b n : Nat} {D : DataW Value} (h : w.ownsMap P k RV b n D) (K : Keyed P k) (ht : P.underlying t = some (.map k e)) {z : Value} (hz : (zeroValue e).run P w = .ok z w) {ky : Value} {kl : Lit} (hkey : keyOf P k ky = some kl) {x : Value} (hx : D.atKey kl (.held z) = .held x) :
    (Instr.lookup t (.map (some b)) ky true).run P w = .ok (.tuple #[x, .bool (Maps.has D kl)]) w := by
  obtain ⟨v, ps, hr, hv⟩ := h.look_ok K ht hz (R := RV) rfl hkey
  rw [hx] at hv
  simp at hv
  rw [hr, hv.1]
/-- 'clear(m)'. -/
theorem ownsMap_clear {H : Type} {P : Program} {w : World} {k t e ty : TypeId} {R : Value → Option (DataW H × List MemPlace)} {b n : Nat} {D : DataW H} (h : w.ownsMap P k R b n D) (ht : P.underlying t = some (.map k e)) :
    ∃ w', (Builtin.clear_ #[t] ty #[.map (some b)]).run P w = .ok (.tuple #[]) w' ∧ w'.ownsMap P k R b 0 (.map []) ∧ w.mapTurned w' b := by
  obtain ⟨es, clock, hb, F, hs, rfl⟩ := h
  refine ⟨Go.ChangeMaps.setBlock w b (.map #[] clock), ?_, ⟨#[], clock, Go.ChangeMaps.heap_setBlock_same hb _, ⟨by simp, Go.MapKept.stamped_empty clock, by simp⟩, Nat.le_refl _, rfl⟩, ⟨es, clock, #[], clock, hb, rfl⟩⟩
  simp [Builtin.clear_, run_underlying ht, Go.MapKept.run_getObj_map hb, Go.MapKept.run_setObj_map _ hb, Result.andThen]
  rfl
end Go.Proofs.Ytjihemgidogoeaa
