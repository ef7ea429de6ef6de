/- dev: what a device of the program is (its block, its row of sectors, its map of what was flushed). -/
import Derived.Test.YtpfcopdckjedfaaDoorDvS
import Derived.Test.YtpfcopdckjedfaaDoorDvN
import Derived.Test.YtpfcopdckjedfaaDoorRowC
import Derived.Test.YtpfcopdckjedfaaDoorKeysI
import Derived.BigRegion
import Derived.Deep.RegionLaw
import Derived.WalkSpells
namespace Go.Proofs.YtpfcopdckjedfaaDoor
open Go.RowKit Go.Maps
set_option linter.unusedVariables false

theorem keyedI : Keyed Tryd.prog 3 := int_keyed Tryd.underlying3
theorem stopHere {p : Prop} (h : Hid p) : p := h.out
/-- A sector's cells. -/
def cs8 (s : Sec) : List Value := s.map (Value.int .u8)
abbrev secV (s : Sec) : Value := .agg (cs8 s).toArray
theorem cs8_len {s : Sec} (h : secOk s) : (cs8 s).length = 64 := by simp [cs8, h.1]
theorem cs8_get (L : List Sec) (i : Nat) : (L.map cs8).getD i [] = cs8 (L.getD i []) := by
  simp only [List.getD, List.getElem?_map]
  cases L[i]? <;> rfl
theorem cs8_set (L : List Sec) (i : Nat) (s : Sec) : (L.map cs8).set i (cs8 s) = (L.set i s).map cs8 := by rw [List.map_set]
theorem cs8_over (b s : List Int) : over (cs8 b) (cs8 s) = cs8 (b ++ s.drop b.length) := by simp [over, cs8]
theorem cs8_one (s : List Int) : ∀ v ∈ cs8 s, v.oneCell' = true := fun v hv => by
  obtain ⟨x, _, rfl⟩ := List.mem_map.1 hv
  rfl
theorem info46 : (Tryd.prog.info? 60).map (fun i => (i.zero, i.size, i.bytes)) = some (some (secV zSec), 64, 64) := by kernel_rfl
theorem size46 : (Tryd.prog.info? 60).map (·.size) = some 64 := by kernel_rfl
theorem zero46 (w : World) : (zeroValue 60).run Tryd.prog w = .ok (secV zSec) w := by kernel_rfl

/-- The map holds what was flushed of each sector that is loose. -/
structure Loo (D : DataW Value) (M : Dv) : Prop where
  out : ∀ n : Int, (n < 0 ∨ (M.now.length : Int) ≤ n) → Maps.has D (key n) = false
  has : ∀ j : Nat, j < M.now.length → Maps.has D (key j) = M.loose.getD j false
  at' : ∀ j : Nat, j < M.now.length → M.loose.getD j false = true → ∀ z, D.atKey (key j) z = .held (secV (M.safe.getD j []))
  same : ∀ j : Nat, j < M.now.length → M.loose.getD j false = false → M.safe.getD j [] = M.now.getD j []
/-- A device: its block, the block of its sectors, its map's. -/
structure DvL (w : World) (M : Dv) (p bs cap bm : Nat) : Prop where
  ok : M.ok
  blk : Blk w p 63 [.slice (some ⟨bs, 0, none⟩) M.now.length cap, .map (some bm), .int .i64 (M.calls : Int), .int .i64 (max M.fuse 0), .bool (decide (M.fuse = 0))]
  sec : OwnC 60 64 0 w (.slice (some ⟨bs, 0, none⟩) M.now.length cap) (M.now.map cs8)
  map : ∃ D, w.ownsMap Tryd.prog 3 RV bm (M.loose.count true) D ∧ Loo D M
/-- .. at a. -/
def DyAt (A : Nat → Prop) (M : Dv) (a : Addr) (w : World) : Prop := ∃ p bs cap bm, a = ⟨p, 0, none⟩ ∧ (∀ b, A b ↔ b = p ∨ b = bs ∨ b = bm) ∧ DvL w M p bs cap bm

section
variable {w w' : World} {M : Dv} {p bs cap bm : Nat}
theorem DvL.ne (h : DvL w M p bs cap bm) : p ≠ bs ∧ p ≠ bm ∧ bs ≠ bm := by
  obtain ⟨D, hm, _⟩ := h.map
  obtain ⟨cur, hb, _⟩ := h.sec.open
  exact ⟨h.blk.ne_ hb (by decide), h.blk.ne_map hm, hb.ne_map hm⟩
theorem DvL.lt (h : DvL w M p bs cap bm) : p < w.heap.size ∧ bs < w.heap.size ∧ bm < w.heap.size := by
  obtain ⟨D, hm, _⟩ := h.map
  exact ⟨h.blk.lt, (h.sec.lt bs rfl).2, hm.lt⟩
theorem DvL.stay (h : DvL w M p bs cap bm) (h1 : w'.heap[p]? = w.heap[p]?) (h2 : w'.heap[bs]? = w.heap[bs]?) (h3 : w'.heap[bm]? = w.heap[bm]?) : DvL w' M p bs cap bm := by
  obtain ⟨D, hm, hD⟩ := h.map
  obtain ⟨cur, hb, hn, hle, hmx, hsz, ht, hB⟩ := h.sec.open
  have hsec : OwnC 60 64 0 w' (.slice (some ⟨bs, 0, none⟩) (M.now.map cs8).length cap) (M.now.map cs8) := OwnC.shut (h2.trans hb) (by omega) hmx hsz (by rw [← hn]; exact ht) hB h.sec.wid
  rw [← hn] at hsec
  exact ⟨h.ok, h1.trans h.blk, hsec, ⟨D, ownsMap_stay hm h3, hD⟩⟩
theorem DvL.bel (h : DvL w M p bs cap bm) (hb : Below w.heap.size w w') : DvL w' M p bs cap bm := by
  obtain ⟨l1, l2, l3⟩ := h.lt
  exact h.stay (hb.block _ l1) (hb.block _ l2) (hb.block _ l3)
/-- The device's own cells, as the walk asks for them. -/
theorem DvL.cells (h : DvL w M p bs cap bm) : w.cell? ⟨p, 0, none⟩ = some (.slice (some ⟨bs, 0, none⟩) M.now.length cap) ∧ w.cell? ⟨p, 1, none⟩ = some (.map (some bm)) ∧ w.cell? ⟨p, 2, none⟩ = some (.int .i64 (M.calls : Int)) ∧
    w.cell? ⟨p, 3, none⟩ = some (.int .i64 (max M.fuse 0)) ∧ w.cell? ⟨p, 4, none⟩ = some (.bool (decide (M.fuse = 0))) :=
  ⟨h.blk.cell 0, h.blk.cell 1, h.blk.cell 2, h.blk.cell 3, h.blk.cell 4⟩
theorem DvL.capb (h : DvL w M p bs cap bm) : M.now.length ≤ cap ∧ cap ≤ 9223372036854775807 := by
  obtain ⟨cur, hb, hn, hle, hmx, _⟩ := h.sec.open
  exact ⟨hle, by unfold maxLen at hmx; omega⟩
theorem DvL.cnt (h : DvL w M p bs cap bm) : M.loose.count true ≤ 2048 := by
  have h1 : M.loose.count true ≤ M.loose.length := List.count_le_length
  have := h.ok.l
  have := h.ok.n2
  omega
/-- The device's own cells alone turn. -/
theorem DvL.turn (h : DvL w M p bs cap bm) {M' : Dv} (hok : M'.ok) (e1 : M'.now = M.now) (e2 : M'.safe = M.safe) (e3 : M'.loose = M.loose) (hw : Wr p w w')
    (hb : Blk w' p 63 [.slice (some ⟨bs, 0, none⟩) M.now.length cap, .map (some bm), .int .i64 (M'.calls : Int), .int .i64 (max M'.fuse 0), .bool (decide (M'.fuse = 0))]) : DvL w' M' p bs cap bm := by
  obtain ⟨n1, n2, n3⟩ := h.ne
  obtain ⟨l1, l2, l3⟩ := h.lt
  obtain ⟨D, hm, hD⟩ := h.map
  refine ⟨hok, by rw [e1]; exact hb, ?_, ⟨D, ?_, ?_⟩⟩
  · rw [e1]
    exact h.sec.grown hw (fun g hg e => by cases hg; cases e; exact n1 rfl)
  · rw [e3]
    exact hm.kept hw (fun e => by cases e; exact n2 rfl)
  · exact ⟨by rw [e1]; exact hD.out, by rw [e1, e3]; exact hD.has, by rw [e1, e2, e3]; exact hD.at', by rw [e1, e2, e3]; exact hD.same⟩
theorem DvL.fz (h : DvL w M p bs cap bm) (i : Nat) : w.frozen? ⟨p, i, none⟩ = false := h.blk.frozen i
/-- Sector i. -/
theorem DvL.rng (h : DvL w M p bs cap bm) {i : Nat} (hi : i < M.now.length) : w.rangeAt bs (i * 64) (cs8 (M.now.getD i [])) := by
  have := h.sec.range (i := i) (by simpa using hi)
  rwa [cs8_get] at this
end
end Go.Proofs.YtpfcopdckjedfaaDoor
