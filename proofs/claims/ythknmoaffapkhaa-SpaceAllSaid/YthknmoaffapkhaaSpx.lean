/- space's laws: SpaceAll. -/
import Derived.Test.YthknmoaffapkhaaSpm
import Derived.Test.YthknmoaffapkhaaSpo
namespace Go.Proofs.Ythknmoaffapkhaa
open Go.RowKit Go.Maps
set_option linter.unusedVariables false

/-- Value i of a row of values as it came in. -/
def gv (z : List (List Int)) (i : Nat) : Int × Int := ((z.getD i []).getD 0 0, (z.getD i []).getD 1 0)
/-- Those of the first k that may be. -/
def gvs (z : List (List Int)) (k : Nat) : List (Int × Int) := ((List.range k).map (gv z)).filter fun v => okv v.1 v.2
theorem gvs_yes (z : List (List Int)) (k : Nat) (h : okv (gv z k).1 (gv z k).2 = true) : gvs z (k + 1) = gvs z k ++ [gv z k] := by
  simp [gvs, List.range_succ, h]
theorem gvs_no (z : List (List Int)) (k : Nat) (h : okv (gv z k).1 (gv z k).2 = false) : gvs z (k + 1) = gvs z k := by
  simp [gvs, List.range_succ, h]
theorem gvs_len (z : List (List Int)) (k : Nat) : (gvs z k).length ≤ k := by
  have := List.length_filter_le (fun v : Int × Int => okv v.1 v.2) ((List.range k).map (gv z))
  simpa [gvs] using this
theorem infoG : (Try.prog.info? 41).map (fun i => (i.zero, i.size, i.bytes)) = some (some (.agg #[.bool false, .int .i64 0, .int .i64 0]), 3, 24) := by kernel_rfl

/-- 'append(v, x)': one record x, that stands in a block of its own. -/
theorem wpList_append_c {P : Program} {w : World} {ops : Array Oper} {rest : List Oper} {o : Oper} {a : Act} {Q : Exit → Act → World → Prop} (hgd : o.guard = none) (s x : Operand) (t : TypeId)
    (ho : o.op = .call { callee := .builtin .append, args := #[s, x], argTypes := #[t, t] })
    (E : TypeId) (z : Value) (base size bytes : Nat) (ht : P.underlying t = some (.slice E)) (hi : (P.info? E).map (fun i => (i.zero, i.size, i.bytes)) = some (some z, size, bytes)) (hzs : z.cells.size = size) (hsz : 0 < size)
    (v : Value) (rs : List (List Value)) (hs : a.eval s = v) (hown : OwnC E size base w v rs)
    (b : Nat) (r : List Value) (hx : a.eval x = .slice (some ⟨b, 0, none⟩) 1 1) (hr : r.length = size) (hc : ∀ j u, r[j]? = some u → w.cell? ((⟨b, 0, none⟩ : Addr).add j) = some u) (h1 : ∀ u ∈ r, u.oneCell' = true)
    (h63 : rs.length + 1 ≤ 65536) (hbytes : (rs.length + 1) * bytes ≤ 140737488355328) (hbase : base ≤ w.heap.size)
    (h : ∀ v' w', OwnC E size base w' v' (rs ++ [r]) → w.grownBy w' v.ownBlock → wpList P ops Q rest (a.put o.dst v') w') : wpList P ops Q (o :: rest) a w := by
  obtain ⟨i, hi0, hz, hsz', hby⟩ := info_parts hi
  refine wpList_append_own w hgd s x t ho base E i z size bytes ht hi0 hz hsz' hby hzs hsz v rs.length _ hs hown.row ⟨b, 0, none⟩ 1 1 r hx (by rw [hr, Nat.one_mul]) hc h1 (by unfold maxLen; omega) hbytes hbase ?_
  intro v' w' h1 h2 _
  exact h v' w' (OwnC.snoc r hr hown.wid rfl h1) h2
theorem OwnC.low {E : TypeId} {s base B : Nat} {w w' : World} {v : Value} {rs : List (List Value)} (h : OwnC E s base w v rs) (hb : Below B w w') (hg : ∀ q, v.ownBlock = some q → q < B) : OwnC E s base w' v rs := by
  refine ⟨⟨h.row.1, ?_⟩, h.wid⟩
  rcases h.row.2 with h' | ⟨g', cap, cur, hv, hb', hh, rest⟩
  · exact .inl h'
  · exact .inr ⟨g', cap, cur, hv, hb', (hb.block g' (hg g' (by rw [hv]; rfl))).trans hh, rest⟩
theorem OwnC.ne_ownC {E E' : TypeId} {B B' s s' : Nat} {w : World} {v v' : Value} {rs rs' : List (List Value)} (h : OwnC E s B w v rs) (h' : OwnC E' s' B' w v' rs') (hne : E ≠ E') (g : Nat) (hg : v'.ownBlock = some g) : v.ownBlock ≠ some g := by
  intro e
  rcases h.row.2 with ⟨rfl, _⟩ | ⟨g1, cap, cur, rfl, _, hh, _⟩
  · simp [Value.ownBlock] at e
  · rcases h'.row.2 with ⟨rfl, _⟩ | ⟨g2, cap2, cur2, rfl, _, hh2, _⟩
    · simp [Value.ownBlock] at hg
    · have e1 : g1 = g := by simpa [Value.ownBlock] using e
      have e2 : g2 = g := by simpa [Value.ownBlock] using hg
      subst e1 e2
      rw [hh] at hh2
      injection hh2 with hh2
      injection hh2 with _ ht
      exact hne ht

/-- A module's cells: a table and globals. -/
abbrev modL (h : Bool) (n : Int) (g : Value) : List Value := [.slice none 0 0, .slice none 0 0, .slice none 0 0, .bool h, .int .i64 n, .int .i64 0, .bool false, .int .i64 0, .int .i64 0, g, .slice none 0 0, .slice none 0 0, .slice none 0 0, .slice none 0 0]
/-- While the module is built: its block gm, the values V, the globals Vg. -/
structure L1 (B gm : Nat) (h : Bool) (n : Int) (w : World) (v gv : Value) (V Vg : List (Int × Int)) : Prop where
  m : Blk w gm 36 (modL h n gv)
  vo : OwnC 39 2 B w v (V.map vc)
  go : OwnC 41 3 B w gv (Vg.map gc)
  hm : B ≤ gm
section
variable {B gm : Nat} {h : Bool} {n : Int} {w w' w1 w2 : World} {v v' gv : Value} {V Vg : List (Int × Int)}
theorem L1.bl (hL : L1 B gm h n w v gv V Vg) (hb : Below w.heap.size w w') : L1 B gm h n w' v gv V Vg := ⟨hL.m.bl hb, hL.vo.below hb (Nat.le_refl _), hL.go.below hb (Nat.le_refl _), hL.hm⟩
theorem L1.alloc (hL : L1 B gm h n w v gv V Vg) (o : Obj) : L1 B gm h n (w.alloc o) v gv V Vg := hL.bl (Bl.alloc (Bl.refl w) o)
theorem L1.pushV (hL : L1 B gm h n w v gv V Vg) {x : Int × Int} (h1 : OwnC 39 2 B w' v' (V.map vc ++ [vc x])) (hg : w.grownBy w' v.ownBlock) : L1 B gm h n w' v' gv (V ++ [x]) Vg :=
  ⟨hL.m.grown hg (fun e => hL.vo.ne_blk hL.m (by decide) e.symm), by rw [List.map_append]; exact h1, hL.go.grown hg (fun g hgv e => hL.vo.ne_ownC hL.go (by decide) g hgv e), hL.hm⟩
theorem L1.pushG {g cap H : Nat} {x : Int × Int} (hL : L1 B gm h n w v gv V Vg) (hw : Below w.heap.size w w1) (hB : B ≤ w.heap.size) (hH : w.heap.size ≤ H)
    (o2 : w2.ownsRow B 41 3 (.slice (some ⟨g, 0, none⟩) (Vg.length + 1) cap) (Vg.length + 1) ((Vg.map gc).flatten ++ gc x)) (g2 : w1.grownBy w2 gv.ownBlock) (hg : gv.ownBlock = some g ∨ g = H) :
    w2.cell? ⟨gm, 9, none⟩ = some gv ∧ w2.frozen? ⟨gm, 9, none⟩ = false ∧ Below B w (w2.setCell ⟨gm, 9, none⟩ (.slice (some ⟨g, 0, none⟩) (Vg.length + 1) cap)) ∧
      L1 B gm h n (w2.setCell ⟨gm, 9, none⟩ (.slice (some ⟨g, 0, none⟩) (Vg.length + 1) cap)) v (.slice (some ⟨g, 0, none⟩) (Vg.length + 1) cap) V (Vg ++ [x]) := by
  have h1 := hL.bl hw
  have hne := hL.go.ne_blk hL.m (by decide)
  have hlt := hL.m.lt
  have hgm : g ≠ gm := by
    rcases hg with hg | hg
    · intro e; exact hne (by rw [hg, e])
    · omega
  have hb2 : Blk w2 gm 36 _ := h1.m.grown g2 (Ne.symm hne)
  have hbel : Below B w w2 := (hw.mono hB).trans (by
    have hl := hL.go.lt
    exact (Below.refl B w1).grown g2 (by have := hw.size; omega) (fun b hb => (hl b hb).1))
  have hvg : v.ownBlock ≠ some gm := hL.vo.ne_blk hL.m (by decide)
  refine ⟨hb2.cell 9, hb2.frozen 9, Below.setCell hbel (p := ⟨gm, 9, none⟩) hL.hm _, hb2.set 9 _, ?_, ?_, hL.hm⟩
  · exact (h1.vo.grown g2 (fun q hq e => hL.vo.ne_ownC hL.go (by decide) q e hq)).aside (p := ⟨gm, 9, none⟩) (fun b hb e => hvg (by rw [hb]; exact congrArg some e)) _
  · have hgl : OwnC 41 3 B w2 (.slice (some ⟨g, 0, none⟩) (Vg.length + 1) cap) ((Vg ++ [x]).map gc) := by
      have hw3 : ∀ r ∈ Vg.map gc, r.length = 3 := fun r hr => by obtain ⟨y, _, rfl⟩ := List.mem_map.1 hr; rfl
      have := OwnC.snoc (s := 3) (gc x) rfl hw3 (by simp) o2
      rw [List.map_append]
      exact this
    exact hgl.aside (p := ⟨gm, 9, none⟩) (fun b hb => by simp [Value.ownBlock] at hb; rw [← hb]; exact hgm) _
end

end Go.Proofs.Ythknmoaffapkhaa
