/- space: New. -/
import Derived.Test.YthknmoaffapkhaaSpd
namespace Go.Proofs.Ythknmoaffapkhaa
open Go.RowKit Go.Maps
set_option linter.unusedVariables false

/-- A slice of records of s cells that is read. -/
structure RdC (s : Nat) (w : World) (ao : Option Addr) (n cap : Nat) (rs : List (List Value)) : Prop where
  len : rs.length = n
  le : n ≤ cap
  max : cap ≤ maxLen
  cell : ∀ i, i < n → ∃ b off, ao = some ⟨b, off, none⟩ ∧ ∀ j u, (rs.getD i [])[j]? = some u → w.cell? ⟨b, off + i * s + j, none⟩ = some u
section
variable {s : Nat} {w w' : World} {ao : Option Addr} {n cap : Nat} {rs : List (List Value)}
theorem RdC.below (h : RdC s w ao n cap rs) (hb : Below w.heap.size w w') : RdC s w' ao n cap rs :=
  ⟨h.len, h.le, h.max, fun i hi => by
    obtain ⟨b, off, e, hc⟩ := h.cell i hi
    exact ⟨b, off, e, fun j u hj => (hb.cell (p := ⟨b, off + i * s + j, none⟩) (World.block_lt_of_cell? w _ (hc j u hj))).trans (hc j u hj)⟩⟩
theorem RdC.empty (s : Nat) (w : World) : RdC s w none 0 0 [] := ⟨rfl, Nat.le_refl _, Nat.zero_le _, fun i hi => by omega⟩
theorem OwnC.rdC {E : TypeId} {B : Nat} {v : Value} (h : OwnC E s B w v rs) : ∃ ao cap, v = .slice ao rs.length cap ∧ RdC s w ao rs.length cap rs := by
  obtain ⟨ao, cap, rfl, h1, h2, h3⟩ := h.shape
  refine ⟨ao, cap, rfl, rfl, h1, by unfold maxLen; omega, fun i hi => ?_⟩
  obtain ⟨g, rfl⟩ := h3 (by omega)
  exact ⟨g, 0, rfl, fun j u hj => by rw [Nat.zero_add]; exact (h.cell i j hi hj).1⟩
end

/-- A global's cells in a module. -/
def gc (v : Int × Int) : List Value := [.bool false, .int .i64 v.1, .int .i64 v.2]
/-- A module that has a table and globals alone. -/
abbrev modV (h : Bool) (n x : Int) (gv : Value) : Value := .agg #[.slice none 0 0, .slice none 0 0, .slice none 0 0, .bool h, .int .i64 n, .int .i64 x, .bool false, .int .i64 0, .int .i64 0, gv, .slice none 0 0, .slice none 0 0, .slice none 0 0, .slice none 0 0]

/-- One global more: what the append and the store leave. -/
theorem SpAt.push {B g cap H : Nat} {w w1 w2 : World} {S : Spc} {T : List Int} {V : List (Int × Int)} {v : Int × Int} (h : SpAt B w S 0 T V) (hw : Below w.heap.size w w1) (hB : B ≤ w.heap.size) (hH : w.heap.size ≤ H) (hv : V.length < 16)
    (o2 : w2.ownsRow B 39 2 (.slice (some ⟨g, 0, none⟩) (V.length + 1) cap) (V.length + 1) ((V.map vc).flatten ++ vc v)) (g2 : w1.grownBy w2 S.gs.ownBlock) (hg : S.gs.ownBlock = some g ∨ g = H) :
    w2.cell? ⟨S.p, 2, none⟩ = some S.gs ∧ w2.frozen? ⟨S.p, 2, none⟩ = false ∧ Below B w (w2.setCell ⟨S.p, 2, none⟩ (.slice (some ⟨g, 0, none⟩) (V.length + 1) cap)) ∧
      SpAt B (w2.setCell ⟨S.p, 2, none⟩ (.slice (some ⟨g, 0, none⟩) (V.length + 1) cap)) ⟨S.p, S.bm, .slice (some ⟨g, 0, none⟩) (V.length + 1) cap⟩ 0 T (V ++ [v]) := by
  have hn := h.neg
  have hlt := h.lt
  have h1 := h.bl hw
  have hgp : g ≠ S.p := by
    rcases hg with hg | hg
    · intro e; exact hn.2.1 (by rw [hg, e])
    · omega
  have hb2 : Blk w2 S.p 60 _ := h1.blk.grown g2 (Ne.symm hn.2.1)
  have hbel : Below B w w2 := (hw.mono hB).trans (by
    have hl := h.gl.lt
    exact (Below.refl B w1).grown g2 (by have := hw.size; omega) (fun b hb => (hl b hb).1))
  refine ⟨hb2.cell 2, hb2.frozen 2, Below.setCell hbel (p := ⟨S.p, 2, none⟩) h.hp _, ?_⟩
  obtain ⟨D, hm, hD⟩ := h1.map
  have hm2 : w2.ownsMap _ _ _ S.bm 0 D := hm.kept g2 (Ne.symm hn.2.2)
  have hgl : OwnC 39 2 B w2 (.slice (some ⟨g, 0, none⟩) (V.length + 1) cap) ((V ++ [v]).map vc) := by
    have := OwnC.snoc (s := 2) (vc v) rfl h.gl.wid (by simp) o2
    rw [List.map_append]
    exact this
  exact ⟨hb2.set 2 _, ⟨D, hm2.setCell (a := ⟨S.p, 2, none⟩) (Ne.symm hn.1) _, hD⟩, hgl.aside (p := ⟨S.p, 2, none⟩) (fun b hb => by simp [Value.ownBlock] at hb; rw [← hb]; exact hgp) _, h.small, by simp; omega, h.nbl, h.hp, h.hb⟩

theorem SpAt.start (w : World) (o : Obj) (n : Int) (T : List Int) (hT : (T.length : Int) = n) (hs : n ≤ 16) (hD : TabD (.map []) T) {p : Nat} (hp : p = w.heap.size + 1 + 1) :
    SpAt w.heap.size (((w.alloc o).alloc (.map #[] 0)).alloc (.cells #[.int .i64 n, .map (some (w.heap.size + 1)), .slice none 0 0] 60)) ⟨p, w.heap.size + 1, .slice none 0 0⟩ 0 T [] ∧
    Below w.heap.size w (((w.alloc o).alloc (.map #[] 0)).alloc (.cells #[.int .i64 n, .map (some (w.heap.size + 1)), .slice none 0 0] 60)) := by
  subst hT hp
  have hm : ((w.alloc o).alloc (.map #[] 0)).ownsMap Try.prog 3 (plainElem (H := Unit) Try.prog 3) (w.heap.size + 1) 0 (.map []) := by
    have := World.ownsMap_made (H := Unit) (w.alloc o) Try.prog 3 (plainElem Try.prog 3)
    simpa using this
  have hb : Blk (((w.alloc o).alloc (.map #[] 0)).alloc (.cells #[.int .i64 (T.length : Int), .map (some (w.heap.size + 1)), .slice none 0 0] 60)) (w.heap.size + 1 + 1) 60 [.int .i64 (T.length : Int), .map (some (w.heap.size + 1)), .slice none 0 0] :=
    Blk.new_at ((w.alloc o).alloc (.map #[] 0)) _ _ (by simp)
  exact ⟨⟨hb, ⟨_, hm.alloc _, hD⟩, OwnC.nil _ _ _ _, by omega, by simp, by simp, by show w.heap.size ≤ w.heap.size + 1 + 1; omega, by show w.heap.size ≤ w.heap.size + 1; omega⟩, Bl.alloc (Bl.alloc (Bl.alloc (Bl.refl w) _) _) _⟩
theorem take_snocV (V : List (Int × Int)) (k : Nat) (hk : k < V.length) : V.take k ++ [V.getD k (0, 0)] = V.take (k + 1) := by
  rw [List.take_succ_eq_append_getElem hk]
  simp [List.getD, hk]

set_option maxHeartbeats 1000000 in
theorem new_to (h : Bool) (n : Nat) (x : Int) (hn : n ≤ 16) (hh : h = true ∨ n = 0) (ao : Option Addr) (cap : Nat) (V : List (Int × Int)) (hv : V.length ≤ 16) (w : World) (hr : RdC 3 w ao V.length cap (V.map gc)) :
    Calls Try.prog 8 #[modV h n x (.slice ao V.length cap)] w fun e w' => ∃ S, e = .returned (spv S) ∧ SpAt w.heap.size w' S 0 (List.replicate n (-1)) V ∧ Below w.heap.size w w' := by
  obtain ⟨m, hm⟩ : ∃ m, V.length = m := ⟨_, rfl⟩
  rw [hm] at hr ⊢
  have hcap := hr.le
  have hmx := hr.max
  have hm63 : cap ≤ 9223372036854775807 := by unfold maxLen at hmx; omega
  have HX := hid (And.intro hr (And.intro hm hv))
  have hm16 : m ≤ 16 := by omega
  clear hr hm hv hmx
  obtain ⟨T, hT⟩ : ∃ T, T = List.replicate n (-1) := ⟨_, rfl⟩
  have hTl : T.length = n := by rw [hT]; simp
  have hTD : TabD (.map []) T := by rw [hT]; exact TabD.new n
  have HT := hid (And.intro hTl hTD)
  rw [← hT]
  clear hT hTl hTD
  have hmm := @run_makeMap Try.prog
  obtain ⟨i1, hi1, hy0, hy1, hy2⟩ := info_parts infoV
  replace hh : h = true ∨ (h = false ∧ n = 0) := by
    cases h
    · exact Or.inr ⟨rfl, by simpa using hh⟩
    · exact Or.inl rfl
  have HN0 : Hid (n ≤ 65536) := hid (by omega)
  rcases hh with rfl | ⟨rfl, hn0⟩
  rotate_left
  replace HN0 := hid hn0
  clear hn0
  all_goals
    go_enter Try.func8, Try.ntmps8
    go_wp2_with fail
    clear hmm
    obtain ⟨p, hp⟩ : ∃ p, p = w.heap.size + 1 + 1 := ⟨_, rfl⟩
    rw [← hp]
    go_loopw [22] (fun i wr => ∃ (k : Nat) (go : Option Addr) (gc : Nat), k ≤ m ∧ i = .int .i64 k ∧ gc ≤ 9223372036854775807 ∧ k ≤ gc ∧ SpAt w.heap.size wr ⟨p, w.heap.size + 1, .slice go k gc⟩ 0 T (V.take k) ∧ Below w.heap.size w wr) (fun i _ => m - (intOf i).toNat)
    case atStart =>
      have hsz := HT.out.1
      have hz := HN0.out
      exact ⟨0, none, 0, Nat.zero_le _, rfl, by omega, Nat.le_refl _, SpAt.start w _ _ T (by omega) (by omega) HT.out.2 hp⟩
    case round =>
      obtain ⟨k, go, gcp, hk, rfl, hgc, hkg, hS, hB⟩ := hrel
      by_cases hlt : k < m
      · have hlen : (V.take k).length = k := by rw [List.length_take]; have := HX.out.2.1; omega
        obtain ⟨x, hx⟩ : ∃ x, V.getD k (0, 0) = x := ⟨_, rfl⟩
        have hsn := take_snocV V k (by rw [HX.out.2.1]; exact hlt)
        rw [hx] at hsn
        obtain ⟨b, off, rfl, hc⟩ := (HX.out.1.below hB).cell k hlt
        rw [show (V.map gc).getD k [] = gc x by rw [← hx]; simp [List.getD, show k < V.length by rw [HX.out.2.1]; exact hlt]] at hc
        have a0 := hc 0 _ rfl
        have a1 := hc 1 _ rfl
        have a2 := hc 2 _ rfl
        rw [Nat.add_zero] at a0
        have hbw := World.block_lt_of_cell? wr _ a0
        have c2 : wr.cell? ⟨p, 2, none⟩ = some (.slice go k gcp) := hS.blk.cell 2
        have hplt : p < wr.heap.size := hS.lt.1
        have HSN := hid (And.intro hsn hlen)
        have HS := hid hS
        have HB := hid hB
        have hro := hS.gl.rowN (n := k) (by rw [List.length_map]; exact hlen)
        have HRO := hid hro
        have hbs := hB.size
        have HPW := hid hp
        clear hc hx hsn hlen hS hB hro hp
        go_wp2_with fail
        have hnews : ∀ j u, (vc x)[j]? = some u → ((wr.alloc (.cells #[.bool false, .int .i64 x.1, .int .i64 x.2] 41)).drew.alloc (.cells #[.int .i64 x.1, .int .i64 x.2] 39)).cell? ((⟨wr.heap.size + 1, 0, none⟩ : Addr).add j) = some u := by
          have := World.news_of_block (heap_alloc_new ((wr.alloc (.cells #[.bool false, .int .i64 x.1, .int .i64 x.2] 41)).drew) (.cells #[.int .i64 x.1, .int .i64 x.2] 39))
          simpa [vc] using this
        have HNW := hid hnews
        have hbel : Below wr.heap.size wr ((wr.alloc (.cells #[.bool false, .int .i64 x.1, .int .i64 x.2] 41)).drew.alloc (.cells #[.int .i64 x.1, .int .i64 x.2] 39)) := Bl.alloc (Bl.alloc (Bl.refl wr) _).drew _
        have HBE := hid hbel
        clear hnews hbel
        go_region_law (refine step_append_lies _ rfl (.tmp 30) (.tmp 33) 22 rfl w.heap.size 39 i1 _ 2 16 Try.underlying22 hi1 hy0 hy1 hy2 rfl (by decide) (.slice go k gcp) k _ rfl ((HRO.out.alloc _).drew.alloc _) ⟨wr.heap.size + 1, 0, none⟩ 1 1 (vc x) rfl rfl HNW.out (by simp [vc, Value.oneCell']) (by decide) (by unfold maxLen; omega) (by omega) (by simp; omega) (wr.heap.size + 1 + 1) (by simp) ?_; intro g cap2 w2 o2 g2 hg2 _
                       have hM := hid (SpAt.push (cap := cap2) (v := x) HS.out HBE.out hbs (by omega) (by rw [HSN.out.2]; omega) (by rw [HSN.out.2]; exact o2) g2 hg2)
                       have m1 : w2.cell? ⟨p, 2, none⟩ = some (.slice go k gcp) := hM.out.1
                       have m2 : w2.frozen? ⟨p, 2, none⟩ = false := hM.out.2.1
                       clear o2 g2 hg2)
        all_goals
          obtain ⟨hS2, hB2⟩ := And.intro hM.out.2.2.2 hM.out.2.2.1
          rw [HSN.out.1, HSN.out.2] at hS2
          rw [HSN.out.2] at hB2
          have hsh : k + 1 ≤ cap2 ∧ cap2 ≤ 9223372036854775807 := by
            obtain ⟨ao, c, e, h1, h2, _⟩ := hS2.gl.shape
            injection e with e1 e2 e3
            subst e3
            rw [← e2] at h1
            exact ⟨h1, h2⟩
          have H := hid (And.intro hS2 (HB.out.trans hB2))
          clear hS2 hB2 hM m1 m2 a0 a1 a2 c2 HNW HBE HS HRO
          simp only at H ⊢
          generalize w2.setCell ⟨p, 2, none⟩ (.slice (some ⟨g, 0, none⟩) (k + 1) cap2) = w3 at H ⊢
          go_wp2_with fail
          go_roundw
          case rel => exact ⟨k + 1, some ⟨g, 0, none⟩, cap2, by omega, by go_num, hsh.2, hsh.1, H.out⟩
          case measure => simp [intOf]; omega
      · obtain rfl : k = m := by omega
        have hS2 := hS
        rw [List.take_of_length_le (by rw [HX.out.2.1]; exact Nat.le_refl _)] at hS2
        have H := hid (And.intro hS2 hB)
        clear hS hB hS2
        go_wp2_with fail
        go_ret
        exact ⟨⟨p, w.heap.size + 1, .slice go k gcp⟩, rfl, H.out⟩
end Go.Proofs.Ythknmoaffapkhaa
