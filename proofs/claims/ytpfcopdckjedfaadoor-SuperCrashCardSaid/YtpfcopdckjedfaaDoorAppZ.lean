/- Words of my own over the guide's library: 'append(s, make([]byte, k)...)' onto a row of the call's own, with room or without. No program is named here. -/
import Derived.Test.YtpfcopdckjedfaaDoorBlk
import Derived.Lib.AppendZerosOnto
namespace Go.Proofs.YtpfcopdckjedfaaDoor
open Go.RowKit

theorem zeroCells_eq (k : Nat) : Builtin.zeroCells #[Value.int .u8 0] k = ((List.replicate k (0 : Int)).map (Value.int .u8)).toArray := by
  apply Array.ext
  · simp [Builtin.zeroCells]
  · intro i h1 h2
    simp [Builtin.zeroCells, Nat.mod_one]
theorem run_append_own_zeros {P : Program} (w : World) (base : Nat) (t tn ty E : TypeId) (i : TypeInfo) (kn : IntKind) (ht : P.underlying t = some (.slice E)) (htn : P.underlying tn = some (.int kn)) (hi : P.info? E = some i) (hz : i.zero = some (.int .u8 0)) (hsz : i.size = 1) (hby : i.bytes = 1)
    (v : Value) (xs : List Int) (hown : Own E .u8 base w v xs) (k : Nat) (h0 : 0 < k) (hk : xs.length + k ≤ 65536) (hbase : base ≤ w.heap.size) :
    ∃ v' w', (Builtin.append_ #[t, tn] ty #[v, .int .i64 k]).run P w = .ok v' w' ∧ Own E .u8 base w' v' (xs ++ List.replicate k 0) ∧ w.grownBy w' v.ownBlock := by
  have hwf : ∀ x ∈ xs ++ List.replicate k 0, (Lit.int .u8 x).wf = true := fun x hx => by
    rcases List.mem_append.1 hx with h | h
    · exact hown.wf x h
    · rw [(List.mem_replicate.1 h).2]; rfl
  have grown : ∀ (old : Nat), old < xs.length + k → ∀ (row : Option Nat),
      (w.drew.alloc (.cells ((xs.map (Value.int .u8)).toArray ++ Builtin.zeroCells #[Value.int .u8 0] k ++ Builtin.zeroCells #[Value.int .u8 0] (grownCap w (xs.length + k) old E - (xs.length + k))) E)).ownsRow base E 1
        (.slice (some ⟨w.heap.size, 0, none⟩) (xs.length + k) (grownCap w (xs.length + k) old E)) (xs.length + k) ((xs ++ List.replicate k 0).map (Value.int .u8)) ∧
      w.grownBy (w.drew.alloc (.cells ((xs.map (Value.int .u8)).toArray ++ Builtin.zeroCells #[Value.int .u8 0] k ++ Builtin.zeroCells #[Value.int .u8 0] (grownCap w (xs.length + k) old E - (xs.length + k))) E)) row := by
    intro old ho row
    have hge := grownCap_ge w (xs.length + k) old E
    have hcm : grownCap w (xs.length + k) old E ≤ maxLen := grownCap_le_maxLen w (xs.length + k) old E (by unfold maxLen; omega)
    refine ⟨⟨by simp, .inr ⟨w.heap.size, _, _, rfl, hbase, heap_alloc_new w.drew _, hge, hcm, ?_, ?_⟩⟩, ⟨rfl, rfl, rfl, by simp, fun j hj _ => Below.heap_alloc w.drew _ j hj⟩⟩
    · simp only [Array.size_append, List.size_toArray, size_zeroCells, List.length_map]
      simp
      omega
    · rw [zeroCells_eq k]
      simp only [Array.toList_append, List.map_append]
      rw [List.take_append_of_le_length (by simp)]
      exact List.take_of_length_le (by simp)
  rcases hown.row.2 with ⟨rfl, hx0⟩ | ⟨g, cap, cur, rfl, hbg, hg, hnc, hcm, hcs, htake⟩
  · have hx : xs = [] := List.eq_nil_of_length_eq_zero hx0
    subst hx
    have hr := Lib.run_append_nil_zeros (P := P) w t tn ty E i (.int .u8 0) .i64 kn ht htn hi hz k h0 (by omega) (by omega) (by rw [hby]; omega)
    have hgr := grown 0 (by omega) (Value.ownBlock (.slice none 0 0))
    simp only [List.length_nil, Nat.zero_add, List.nil_append, List.map_nil] at hgr ⊢ hwf
    refine ⟨_, _, hr, ⟨?_, hwf⟩, ?_⟩
    · simpa [Value.cells] using hgr.1
    · simpa [Value.cells] using hgr.2
  · have hcs' : cur.size = cap := by simpa using hcs
    by_cases hroom : xs.length + k ≤ cap
    · have hst := run_storeCells_at P g xs.length E ((List.replicate k (0 : Int)).map (Value.int .u8)) 0 cur w hg (by simp; omega) (ints_oneCell _ _)
      have hw : IntKind.i64.wrap (k : Int) = k := by rw [IntKind.wrap_i64]; omega
      have hn0 : ¬ ((k : Int) < 0) := by omega
      have h48 : ¬ (281474976710656 < (k : Int)) := by omega
      have hkk : k ≠ 0 := by omega
      have hr : (Builtin.append_ #[t, tn] ty #[.slice (some ⟨g, 0, none⟩) xs.length cap, .int .i64 k]).run P w = .ok (.slice (some ⟨g, 0, none⟩) (xs.length + k) cap) (w.setRow g (cur.toList.take (xs.length + 0) ++ (List.replicate k (0 : Int)).map (Value.int .u8) ++ cur.toList.drop (xs.length + 0 + ((List.replicate k (0 : Int)).map (Value.int .u8)).length)).toArray) := by
        have hzc := zeroCells_eq k
        simp [Builtin.append_, run_underlying ht, run_underlying htn, sizeOf, typeInfo, zeroValue, hi, hz, hsz, hby, asInt, asIntOf, hw, hn0, h48, hkk, hroom, Value.cells, hzc, Addr.add_lit] at hst ⊢
        rw [hst]
        simp
      refine ⟨_, _, hr, ⟨⟨by simp, .inr ⟨g, cap, _, by simp, hbg, setRow_heap w g cur _ E _ hg, by simpa using hroom, hcm, ?_, ?_⟩⟩, hwf⟩, ⟨rfl, rfl, rfl, by simp, fun j _ hj => setRow_other w g j _ (fun e => hj (by simp [Value.ownBlock, e]))⟩⟩
      · simp
        omega
      · have ht2 : cur.toList.take xs.length = xs.map (Value.int .u8) := by simpa using htake
        simp only [Nat.add_zero, ht2, List.map_append, Nat.mul_one, List.length_append, List.length_replicate]
        rw [List.take_append_of_le_length (by simp)]
        exact List.take_of_length_le (by simp)
    · have hcell := hown.row.cells (g := g) rfl
      have hl : (loadCells ⟨g, 0, none⟩ xs.length).run P w.drew = .ok (xs.map (Value.int .u8)).toArray w.drew := by
        have := run_loadCells_list (P := P) w.drew ⟨g, 0, none⟩ (xs.map (Value.int .u8)) (fun j u hu => hcell j u hu)
        simpa using this
      have hr := Lib.run_append_grow_zeros (P := P) w t tn ty E i (.int .u8 0) .i64 kn ht htn hi hz (some ⟨g, 0, none⟩) xs.length cap (xs.map (Value.int .u8)) (by simp [Builtin.firstCells, hsz, hl]) k h0 (by omega) (by omega) (by omega) (by rw [hby]; omega) (by have := nextslicecap_le (need := xs.length + k) (old := cap) (by omega); rw [hby]; omega)
      have hgr := grown cap (by omega) (Value.ownBlock (.slice (some ⟨g, 0, none⟩) xs.length cap))
      refine ⟨_, _, hr, ⟨?_, hwf⟩, hgr.2⟩
      rw [List.length_append, List.length_replicate]
      exact hgr.1
end Go.Proofs.YtpfcopdckjedfaaDoor
