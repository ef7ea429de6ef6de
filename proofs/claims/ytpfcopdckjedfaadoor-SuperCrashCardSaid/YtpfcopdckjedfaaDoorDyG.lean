/- dev: Write in all its ways, of, New, slices.Clone. -/
import Derived.Test.YtpfcopdckjedfaaDoorDyF
import Derived.Test.YtpfcopdckjedfaaDoorMake
namespace Go.Proofs.YtpfcopdckjedfaaDoor
open Go.RowKit Go.Maps
set_option linter.unusedVariables false
set_option maxRecDepth 100000

theorem write_to {w : World} {M : Dv} {p bs cap bm : Nat} (h : DvL w M p bs cap bm) (i : Int) (hwi : (Lit.int .i64 i).wf = true) (ao : Option Addr) (n bcap : Nat) (b : List Int) (hb : Rd .u8 w ao n bcap b) (hap : ∀ ad, ao = some ad → ¬ (ad.block = p ∨ ad.block = bs ∨ ad.block = bm)) (hc : M.calls < 1000000000) :
    Calls Tryd.prog 18 #[atp p, .int .i64 i, .slice ao n bcap] w fun e w' => e = .returned (.int .i64 (M.writeE i n)) ∧ DvL w' (M.write i b) p bs cap bm ∧ Wrs (fun b => b = p ∨ b = bs ∨ b = bm) w w' := by
  have hd := dead_to h
  have hh := has_to h i
  have hbl := hb.len
  have hl63 : n ≤ 9223372036854775807 := by have h1 := hb.max; have h2 := hb.le; unfold maxLen at h1; omega
  by_cases hf : M.fuse = 0
  · obtain ⟨e1, e2⟩ := Dv.write_dead hf i n b
    rw [e1, e2]
    rw [decide_eq_true hf] at hd
    have HH := hid h
    clear h hh hb hap hc hf e1 e2 hwi hbl
    go_enter Tryd.func18, Tryd.ntmps18
    go_wp2_with fail
    refine hd.mono ?_
    rintro e w' ⟨rfl, rfl⟩
    go_wp2_with fail
    go_ret
    exact ⟨rfl, HH.out, Wrs.refl _ _⟩
  · by_cases hi : 0 ≤ i ∧ i < (M.now.length : Int)
    · by_cases hn : n ≤ 64
      · have e1 : M.writeE i n = 0 := by unfold Dv.writeE; rw [if_neg hf, if_neg (by omega), if_neg (by omega)]
        have e2 : M.write i b = M.put i.toNat b := by unfold Dv.write; rw [hbl, e1, if_pos rfl]
        rw [e1, e2]
        obtain ⟨k, rfl⟩ : ∃ k : Nat, i = k := ⟨i.toNat, by omega⟩
        exact write_ok h k (by omega) ao n bcap b hb hn hap hc hf
      · have e1 : M.writeE i n = 1 := by unfold Dv.writeE; rw [if_neg hf, if_neg (by omega), if_pos (by omega)]
        have e2 : M.write i b = M := by unfold Dv.write; rw [hbl, e1, if_neg (by decide)]
        rw [e1, e2]
        rw [decide_eq_false hf] at hd
        rw [decide_eq_true hi] at hh
        have HH := hid h
        have hn' : (64 : Int) < (n : Int) := by omega
        clear h hb hap hc hf e1 e2 hwi hbl hi hn
        go_enter Tryd.func18, Tryd.ntmps18
        go_wp2_with fail
        refine hd.mono ?_
        rintro e w' ⟨rfl, rfl⟩
        go_wp2_with fail
        refine hh.mono ?_
        rintro e w' ⟨rfl, rfl⟩
        go_wp2_with fail
        go_ret
        exact ⟨rfl, HH.out, Wrs.refl _ _⟩
    · have e1 : M.writeE i n = 3 := by unfold Dv.writeE; rw [if_neg hf, if_pos (by omega)]
      have e2 : M.write i b = M := by unfold Dv.write; rw [hbl, e1, if_neg (by decide)] <;> (unfold Dv.writeE; rw [if_neg hf, if_pos (by omega)])
      rw [e1, e2]
      rw [decide_eq_false hf] at hd
      rw [decide_eq_false hi] at hh
      have HH := hid h
      clear h hb hap hc hf e1 e2 hwi hbl hi
      go_enter Tryd.func18, Tryd.ntmps18
      go_wp2_with fail
      refine hd.mono ?_
      rintro e w' ⟨rfl, rfl⟩
      go_wp2_with fail
      refine hh.mono ?_
      rintro e w' ⟨rfl, rfl⟩
      go_wp2_with fail
      go_ret
      exact ⟨rfl, HH.out, Wrs.refl _ _⟩
theorem write_nil (i : Int) (ao : Option Addr) (n cap : Nat) (w : World) : Calls Tryd.prog 18 #[.pointer none, .int .i64 i, .slice ao n cap] w fun e w' => e = .returned (.int .i64 10) ∧ w = w' := by
  have hd := fun w => dead_nil w
  go_enter Tryd.func18, Tryd.ntmps18
  go_wp2_with fail
  refine (hd _).mono ?_
  rintro e w' ⟨rfl, rfl⟩
  go_wp2_with fail
  go_ret
  exact ⟨rfl, rfl⟩

/-- A device of just these sectors. -/
def Dv.of (L : List Sec) : Dv := ⟨L, L, List.replicate L.length false, 0, -1⟩
theorem Dv.of_ok {L : List Sec} (h1 : 1 ≤ L.length) (h2 : L.length ≤ 2048) (hs : ∀ s ∈ L, secOk s) : (Dv.of L).ok := ⟨h1, h2, rfl, by simp [Dv.of], hs, hs, by simp [Dv.of], by simp [Dv.of]⟩
theorem Loo.of (L : List Sec) : Loo (.map []) (Dv.of L) :=
  ⟨fun _ _ => rfl, fun j hj => by simp [Dv.of, List.getD, List.getElem?_replicate, Maps.has]; split <;> rfl, fun j hj hl => by simp [Dv.of, List.getD, List.getElem?_replicate] at hl; split at hl <;> simp at hl, fun j _ _ => rfl⟩
theorem of_to {w : World} {L : List Sec} {bs cap : Nat} (hL : OwnC 60 64 0 w (.slice (some ⟨bs, 0, none⟩) L.length cap) (L.map cs8)) (h1 : 1 ≤ L.length) (h2 : L.length ≤ 2048) (hs : ∀ s ∈ L, secOk s) :
    Calls Tryd.prog 20 #[.slice (some ⟨bs, 0, none⟩) L.length cap] w fun e w' => e = .returned (atp (w.heap.size + 1)) ∧ DvL w' (Dv.of L) (w.heap.size + 1) bs cap w.heap.size ∧ Below w.heap.size w w' := by
  have key : ∀ w', Hid (w' = (w.alloc (.map #[] 0)).alloc (.cells #[.slice (some ⟨bs, 0, none⟩) L.length cap, .map (some w.heap.size), .int .i64 0, .int .i64 0, .bool false] 63)) → DvL w' (Dv.of L) (w.heap.size + 1) bs cap w.heap.size ∧ Below w.heap.size w w' := by
    intro w' hw'
    have hw' := hw'.out
    subst hw'
    have hm := (World.ownsMap_made w Tryd.prog 3 RV).alloc (.cells #[.slice (some ⟨bs, 0, none⟩) L.length cap, .map (some w.heap.size), .int .i64 0, .int .i64 0, .bool false] 63)
    refine ⟨⟨Dv.of_ok h1 h2 hs, Blk.new_at (w.alloc (.map #[] 0)) 63 _ (by simp), (hL.alloc _).alloc _, ⟨_, ?_, Loo.of L⟩⟩, Bl.alloc (Bl.alloc (Bl.refl w) _) _⟩
    have e : (Dv.of L).loose.count true = 0 := by simp [Dv.of, List.count_replicate]
    rw [e]
    exact hm
  have hmm := @run_makeMap Tryd.prog
  obtain ⟨n, hn⟩ : ∃ n, L.length = n := ⟨_, rfl⟩
  rw [hn] at key ⊢
  have HK := hid key
  clear key hL h1 h2 hs hn
  go_enter Tryd.func20, Tryd.ntmps20
  go_wp2_with fail
  go_ret
  exact ⟨rfl, HK.out _ (hid rfl)⟩
end Go.Proofs.YtpfcopdckjedfaaDoor
