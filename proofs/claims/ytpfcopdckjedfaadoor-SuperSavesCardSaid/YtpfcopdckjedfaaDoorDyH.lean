/- dev: New, Clone of sectors, Loose. -/
import Derived.Test.YtpfcopdckjedfaaDoorDyG
namespace Go.Proofs.YtpfcopdckjedfaaDoor
open Go.RowKit Go.Maps
set_option linter.unusedVariables false
set_option maxRecDepth 100000

theorem cs8_zero : cs8 zSec = List.replicate 64 (.int .u8 0) := by simp [cs8, zSec]
theorem rep_get (m i : Nat) (x : Value) (hi : i < m) : (List.replicate m x).toArray[i]! = x := by simp [hi]
theorem zsec_made (k : Nat) : madeCells (secV zSec).cells (k * 64) = ((List.replicate k (cs8 zSec)).flatten).toArray := by
  have z : ∀ i : Nat, i < 64 → (secV zSec).cells[i]! = .int .u8 0 := by
    intro i hi
    show (cs8 zSec).toArray[i]! = _
    rw [cs8_zero]
    exact rep_get 64 i _ hi
  have hs : (secV zSec).cells.size = 64 := rfl
  have e : madeCells (secV zSec).cells (k * 64) = (Array.range (k * 64)).map fun _ => Value.int .u8 0 := by
    unfold madeCells
    congr 1
    funext i
    rw [hs]
    exact z (i % 64) (Nat.mod_lt _ (by decide))
  rw [e, cs8_zero]
  apply Array.ext'
  rw [Array.toList_map, Array.toList_range, List.map_const', List.length_range]
  show _ = (List.replicate k (List.replicate 64 (Value.int .u8 0))).flatten
  rw [List.flatten_replicate_replicate]
theorem new_to (n : Int) (w : World) (hn : (Lit.int .i64 n).wf = true) :
    Calls Tryd.prog 8 #[.int .i64 n] w fun e w' => ∃ p bs cap bm, e = .returned (atp p) ∧ w.heap.size ≤ p ∧ w.heap.size ≤ bs ∧ w.heap.size ≤ bm ∧ DvL w' (Dv.new n) p bs cap bm ∧ Below w.heap.size w w' := by
  obtain ⟨k, hk⟩ : ∃ k : Nat, max 1 (min n 2048) = k := ⟨(max 1 (min n 2048)).toNat, by omega⟩
  have e0 : Dv.new n = Dv.of (List.replicate k zSec) := by
    unfold Dv.new
    rw [hk, Int.toNat_natCast]
    simp [Dv.blank, Dv.of]
  have hk1 : 1 ≤ k ∧ k ≤ 2048 := by omega
  rw [e0]
  have hb := bounds_i64 hn
  obtain ⟨i, hi0, hz, hsz, hby⟩ := info_parts info46
  have hmk := fun (w : World) => run_make (P := Tryd.prog) w 48 60 i (secV zSec) Tryd.underlying48 hi0 hz .i64 .i64 (k : Int) (k : Int) (by omega) (Int.le_refl _) (by rw [hby]; omega) (by omega)
  rw [hsz] at hmk
  simp only [Int.toNat_natCast, zsec_made] at hmk
  have hown : OwnC 60 64 0 (w.alloc (.cells ((List.replicate k (cs8 zSec)).flatten).toArray 60)) (.slice (some ⟨w.heap.size, 0, none⟩) (List.replicate k (cs8 zSec)).length k) (List.replicate k (cs8 zSec)) := by
    have hw : ∀ r ∈ List.replicate k (cs8 zSec), r.length = 64 := fun r hr => by rw [(List.mem_replicate.1 hr).2]; rfl
    have hl := flat_len' 64 _ hw
    refine OwnC.shut (Blk.new w 60 _) (by simp) (by unfold maxLen; omega) (by rw [hl]; simp) (List.take_of_length_le (by rw [hl]; exact Nat.le_refl _)) (Nat.zero_le _) hw
  have hown2 : OwnC 60 64 0 (w.alloc (.cells ((List.replicate k (cs8 zSec)).flatten).toArray 60)) (.slice (some ⟨w.heap.size, 0, none⟩) (List.replicate k zSec).length k) ((List.replicate k zSec).map cs8) := by
    simpa using hown
  have hof := of_to hown2 (by simpa using hk1.1) (by simpa using hk1.2) (fun s hs => by rw [(List.mem_replicate.1 hs).2]; exact zSec_ok)
  rw [List.length_replicate] at hof
  obtain ⟨w1, hw1⟩ : ∃ w1, w.alloc (.cells ((List.replicate k (cs8 zSec)).flatten).toArray 60) = w1 := ⟨_, rfl⟩
  have hB1 : Below w.heap.size w w1 := by rw [← hw1]; exact Bl.alloc (Bl.refl w) _
  have hs1 : w1.heap.size = w.heap.size + 1 := by rw [← hw1]; simp
  have hmk1 := hmk w
  rw [hw1] at hmk1 hof
  clear hmk hi0 hz hsz hby hown hown2 hw1 e0 hn
  have HB := hid (And.intro hB1 hs1)
  have m1 : max n 1 = max 1 n := by omega
  obtain ⟨x1, hx1⟩ : ∃ x1, max n 1 = x1 := ⟨_, rfl⟩
  have m2 : min x1 2048 = (k : Int) := by omega
  have HK := hid hk
  clear hB1 hs1 m1 hk
  go_enter Tryd.func8, Tryd.ntmps8
  go_wp2_with fail
  refine hof.mono ?_
  rintro e w2 ⟨rfl, h2, hb2⟩
  have HX := hid (And.intro h2 hb2)
  clear h2 hb2 hof
  go_wp2_with fail
  go_ret
  obtain ⟨hB1, hs1⟩ := HB.out
  exact ⟨_, _, _, _, rfl, by omega, Nat.le_refl _, by omega, HX.out.1, Bl.step hB1 HX.out.2⟩

theorem mem_looses : ∀ (l : List Bool) (k : Nat) (x : Int), x ∈ loosesFrom k l ↔ ∃ j : Nat, j < l.length ∧ x = (k : Int) + j ∧ l.getD j false = true
  | [], k, x => by simp [loosesFrom]
  | b :: l, k, x => by
    have ih := mem_looses l (k + 1) x
    have hstep : (∃ j : Nat, j < (b :: l).length ∧ x = (k : Int) + j ∧ (b :: l).getD j false = true) ↔ ((x = k ∧ b = true) ∨ ∃ j : Nat, j < l.length ∧ x = ((k + 1 : Nat) : Int) + j ∧ l.getD j false = true) := by
      constructor
      · rintro ⟨j, h1, h2, h3⟩
        cases j with
        | zero => exact .inl ⟨by omega, by simpa using h3⟩
        | succ j => exact .inr ⟨j, by simpa using h1, by omega, by simpa using h3⟩
      · rintro (⟨h1, h2⟩ | ⟨j, h1, h2, h3⟩)
        · exact ⟨0, by simp, by omega, by simpa using h2⟩
        · exact ⟨j + 1, by simpa using h1, by omega, by simpa using h3⟩
    rw [hstep, ← ih]
    cases b <;> simp [loosesFrom]
theorem looses_lt : ∀ (l : List Bool) (k : Nat), (loosesFrom k l).Pairwise (· < ·)
  | [], _ => List.Pairwise.nil
  | true :: l, k => List.Pairwise.cons (fun x hx => by
      obtain ⟨j, _, hj, _⟩ := (mem_looses l (k + 1) x).1 hx
      omega) (looses_lt l (k + 1))
  | false :: l, k => looses_lt l (k + 1)
theorem sorted_looses (l : List Bool) : (loosesFrom 0 l).mergeSort (fun x y => decide (x ≤ y)) = loosesFrom 0 l :=
  List.mergeSort_of_pairwise ((looses_lt l 0).imp fun {a b} h => by simp; omega)
theorem looses_perm {w : World} {M : Dv} {b n : Nat} {D : DataW Value} (hm : w.ownsMap Tryd.prog 3 RV b n D) (hD : Loo D M) (hM : M.ok) : M.looses.Perm (intKeys D) := by
  have hL := hM.l
  refine CollectedI.perm (left := fun _ => false) ⟨((looses_lt M.loose 0).imp fun {a b} h => by omega), fun x => ?_⟩ hm keyedI Tryd.underlying3 (fun _ => rfl)
  rw [show (x ∈ M.looses) = (x ∈ loosesFrom 0 M.loose) from rfl, mem_looses]
  constructor
  · rintro ⟨j, h1, h2, h3⟩
    have : x = (j : Int) := by omega
    subst this
    exact ⟨by rw [hD.has j (by omega)]; exact h3, rfl⟩
  · rintro ⟨h1, _⟩
    by_cases hx : x < 0 ∨ (M.now.length : Int) ≤ x
    · rw [hD.out x hx] at h1; cases h1
    · obtain ⟨j, rfl⟩ : ∃ j : Nat, x = j := ⟨x.toNat, by omega⟩
      exact ⟨j, by omega, by omega, by rw [← hD.has j (by omega)]; exact h1⟩
theorem sorts (m : Nat) : AnyZI.SortsIn Tryd.prog sortedA_ren Fence.wide m :=
  ⟨fun blk off cap ss W hH hblk hsz => callsIn_wide.2 (AnyM.slices_Sort_int sortA blk off cap ss W hH hblk hsz),
   fun p cap W => callsIn_wide.2 (AnyM.slices_Sort_int_none sortA p cap W)⟩
set_option maxHeartbeats 1000000 in
theorem loose_to {w : World} {M : Dv} {p bs cap bm : Nat} (h : DvL w M p bs cap bm) :
    Calls Tryd.prog 16 #[atp p] w fun e w' => ∃ v, e = .returned v ∧ Own 3 .i64 w.heap.size w' v M.looses ∧ Below w.heap.size w w' := by
  obtain ⟨D0, hown, hD⟩ := h.map
  have c1 := h.cells.2.1
  have hsz := ownsMap_size hown
  have hcnt := h.cnt
  have hmax : Maps.size D0 ≤ maxLen := by have := hown.size_le; unfold maxLen; omega
  have hbytes : Maps.size D0 * 8 ≤ 140737488355328 := by have := hown.size_le; omega
  have hperm := looses_perm hown hD h.ok
  have hwf : ∀ x ∈ M.looses, (Lit.int .i64 x).wf = true := fun x hx => intKeys_wf hown Tryd.underlying3 x (hperm.mem_iff.1 hx)
  have hbl := hown.lt
  clear h
  refine (callsIn_wide (n := 6)).1 ?_
  have hseq : SeqGives Fence.wide 2 Tryd.prog 40 #[.pointer (some ⟨w.heap.size, 0, none⟩)] encZ (fun ss => ss.Perm (intKeys D0)) (Maps.size D0) (w.alloc (.cells #[.map (some bm)] 61)) :=
    AnyZI.keys_gives (ρ := keysA_ren) { keysA with } Fence.wide _ trivial rfl (by omega) w.heap.size bm _ D0 _ (by simp) (by simp) (by
      obtain ⟨es, clock, hb, Ft, hs, hD⟩ := hown
      exact ⟨es, clock, (Below.heap_alloc _ _ bm hbl).trans hb, Ft, hs, hD⟩)
  have cK : ∀ mb W, CallsIn Fence.wide 5 Tryd.prog 27 #[.map mb] W fun e w' => e = .returned (.func (.func 40) #[] #[.pointer (some ⟨W.heap.size, 0, none⟩)]) ∧ w' = W.alloc (.cells #[.map mb] 61) := fun mb W => AnyZI.keys_in keysA Fence.wide 5 trivial rfl mb W
  have cS := AnyZI.sorted_in sortedA Fence.wide 5 trivial trivial trivial trivial rfl (by omega) (sorts _) (enters_of Tryd.func39 (by kernel_rfl) rfl) 40 #[.pointer (some ⟨w.heap.size, 0, none⟩)] trivial (enters_of Tryd.func40 (by kernel_rfl) rfl) _ _ hmax hbytes _ hseq
  change CallsIn _ _ Tryd.prog 26 _ _ _ at cS
  have hfK : Fence.wide.fn 27 := trivial
  have hfS : Fence.wide.fn 26 := trivial
  have HP := hid (And.intro hperm hwf)
  clear hperm hwf hD
  refine callsIn_of_wp Tryd.func16 rfl trivial ?_ rfl
  simp only [Tryd.ntmps16, List.size_toArray, List.length_cons, List.length_nil, Nat.reduceAdd, Nat.reduceSub, Array.replicate_succ, Array.replicate_zero, List.push_toArray, List.append_toArray, List.nil_append, List.cons_append]
  gi_wp2_with (first
    | (gi_at_call 27; refine (cK _ _).mono ?_; rintro e w' ⟨rfl, rfl⟩)
    | (gi_at_call 26; refine cS.mono ?_; rintro e w' ⟨v, ss, rfl, hS, hrow, hnil, hb⟩))
  go_ret
  obtain ⟨hperm, hwf⟩ := HP.out
  have hss := hS.trans hperm.symm
  have hml : ss.mergeSort (fun x y => decide (x ≤ y)) = M.looses := (mergeSort_of_perm_i hss).trans (sorted_looses _)
  have hrow2 := ownsRow_base_a (base' := w.heap.size) hrow (by simp)
  rw [hml, hss.length_eq] at hrow2
  exact ⟨v, rfl, ⟨hrow2, hwf⟩, ((Below.refl _ w).alloc (Nat.le_refl _) _).trans (hb.mono (by simp))⟩
theorem loose_nil (w : World) : Calls Tryd.prog 16 #[.pointer none] w fun e w' => e = .returned (.slice none 0 0) ∧ w = w' := by
  go_enter Tryd.func16, Tryd.ntmps16
  go_wp2_with fail
  go_ret
  exact ⟨rfl, rfl⟩
end Go.Proofs.YtpfcopdckjedfaaDoor
