/- Words of my own over the guide's library, for every seat: a slice of the call's own whose elements are one-cell values of any kind. No program is named here. -/
import Derived.Test.YtjihemgidogoeaaBase
namespace Go.Proofs.Ytjihemgidogoeaa
open Go.RowKit

/-- A slice value that the call itself has made (its block is at least number base), reading as the values vs. -/
structure OwnV (E : TypeId) (base : Nat) (w : World) (v : Value) (vs : List Value) : Prop where
  row : w.ownsRow base E 1 v vs.length vs

section
variable {E : TypeId} {base B : Nat} {w w' : World} {v : Value} {vs : List Value}

theorem OwnV.below (h : OwnV E base w v vs) (hb : Below B w w') (hB : w.heap.size ≤ B) : OwnV E base w' v vs := by
  refine ⟨h.row.kept (row := none) ⟨hb.os, hb.tape, hb.output, hb.size, fun k hk _ => hb.block k (by omega)⟩ ?_⟩
  cases hv : v.ownBlock <;> simp

theorem OwnV.lift (h : OwnV E base w v vs) {base' : Nat} (hb : base' ≤ base) : OwnV E base' w v vs := by
  refine ⟨⟨h.row.1, ?_⟩⟩
  rcases h.row.2 with h2 | ⟨g, cap, cur, hv, hg, r⟩
  · exact .inl h2
  · exact .inr ⟨g, cap, cur, hv, by omega, r⟩

theorem OwnV.nil (E : TypeId) (base : Nat) (w : World) : OwnV E base w (.slice none 0 0) [] := ⟨World.ownsRow_nil w base E 1⟩
theorem OwnV.lt (h : OwnV E base w v vs) : ∀ b, v.ownBlock = some b → base ≤ b ∧ b < w.heap.size := h.row.lt
theorem OwnV.alloc (h : OwnV E base w v vs) (o : Obj) : OwnV E base (w.alloc o) v vs := ⟨h.row.alloc o⟩
theorem OwnV.drew (h : OwnV E base w v vs) : OwnV E base w.drew v vs := ⟨h.row⟩

/-- What is owned is read: nil and empty, or a plain address and each cell. -/
theorem OwnV.form (h : OwnV E base w v vs) : (v = .slice none 0 0 ∧ vs = []) ∨ ∃ g cap, v = .slice (some ⟨g, 0, none⟩) vs.length cap ∧ base ≤ g ∧ g < w.heap.size ∧ vs.length ≤ cap ∧ cap ≤ maxLen ∧ ∀ i u, vs[i]? = some u → w.cell? ⟨g, i, none⟩ = some u := by
  have hl := h.lt
  have hc := fun (g : Nat) (hg : v.ownBlock = some g) => h.row.cells hg
  rcases h.row.2 with ⟨rfl, hn⟩ | ⟨g, cap, cur, rfl, hb, hg, hle, hm, hs, ht⟩
  · exact .inl ⟨rfl, List.eq_nil_of_length_eq_zero hn⟩
  · refine .inr ⟨g, cap, rfl, hb, (hl g rfl).2, hle, hm, fun i u hu => ?_⟩
    have := hc g rfl i u hu
    rwa [Addr.add_lit, Nat.zero_add] at this
end

/-- 'append(v, x)': one value x, that stands in a block of its own. -/
theorem wpList_append_val {P : Program} {w : World} {ops : Array Oper} {rest : List Oper} {o : Oper} {a : Act} {Q : Exit → Act → World → Prop} (hgd : o.guard = none) (s x : Operand) (t : TypeId)
    (ho : o.op = .call { callee := .builtin .append, args := #[s, x], argTypes := #[t, t] })
    (E : TypeId) (z : Value) (base : Nat) (bytes : Nat) (ht : P.underlying t = some (.slice E)) (hi : (P.info? E).map (fun i => (i.zero, i.size, i.bytes)) = some (some z, 1, bytes)) (hz1 : z.cells.size = 1)
    (v : Value) (vs : List Value) (hs : a.eval s = v) (hown : OwnV E base w v vs)
    (b : Nat) (u : Value) (hx : a.eval x = .slice (some ⟨b, 0, none⟩) 1 1) (hc : w.cell? ⟨b, 0, none⟩ = some u) (h1 : u.oneCell' = true)
    (h63 : vs.length + 1 ≤ 4611686018427387904) (hbytes : (vs.length + 1) * bytes ≤ 140737488355328) (hbase : base ≤ w.heap.size)
    (h : ∀ v' w', OwnV E base w' v' (vs ++ [u]) → Below base w w' → wpList P ops Q rest (a.put o.dst v') w') : wpList P ops Q (o :: rest) a w := by
  obtain ⟨i, hi0, hz, hsz, hby⟩ := info_parts hi
  refine wpList_append_own w hgd s x t ho base E i z 1 bytes ht hi0 hz hsz hby hz1 (by decide) v vs.length _ hs hown.row ⟨b, 0, none⟩ 1 1 [u] hx rfl ?_ ?_ (by unfold maxLen; omega) hbytes hbase ?_
  · intro j y hy
    cases j with
    | zero =>
      have : u = y := by simpa using hy
      subst this
      rw [Addr.add_lit]
      exact hc
    | succ j => simp at hy
  · intro y hy
    have : y = u := by simpa using hy
    subst this
    exact h1
  · intro v' w' h1 h2 _
    exact h v' w' ⟨by simpa using h1⟩ ((Below.refl _ _).grown h2 hbase (fun b hb => (hown.lt b hb).1))
end Go.Proofs.Ytjihemgidogoeaa
