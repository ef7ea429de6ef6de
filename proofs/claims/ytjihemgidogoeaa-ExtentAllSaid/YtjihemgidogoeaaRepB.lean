/- slices.Repeat of one bool. -/
import Derived.Test.YtjihemgidogoeaaEyE
import Derived.Laws.CopyOwn
import Derived.Deep.RegionLaw
namespace Go.Proofs.Ytjihemgidogoeaa
open Go.RowKit
set_option linter.unusedVariables false

theorem infoR : (Try.prog.info? 4).map (fun i => (i.zero, i.size, i.bytes)) = some (some (.bool false), 1, 1) := by kernel_rfl
theorem wrap64_idR (n : Int) (h0 : -9223372036854775808 ≤ n) (h1 : n ≤ 9223372036854775807) : wrap64 n = n := by unfold wrap64; omega
theorem makeR0 (w : World) : (Instr.makeSlice 26 (.int .i64 0) (.int .i64 0)).run Try.prog w = .ok (.slice (some ⟨w.heap.size, 0, none⟩) 0 0) (w.alloc (.cells #[] 4)) := by kernel_rfl
theorem stopR {p : Prop} (h : Hid p) : p := h.out

set_option maxRecDepth 100000 in
theorem mul64_to (c : Int) (h0 : 0 ≤ c) (h1 : c ≤ 2048) (w : World) : Calls Try.prog 25 #[.int .u64 1, .int .u64 c] w fun e w' => e = .returned (.tuple #[.int .u64 0, .int .u64 c]) ∧ w = w' := by
  have e1 : bits BinOp.and IntKind.u64 c 4294967295 = c := by
    have := bits_and_mask .u64 32 (by decide) (fun n h0 h1 => by rw [IntKind.wrap_u64]; rw [show (2 : Int) ^ 32 = 4294967296 from by decide] at h1; omega) c
    rw [show (2 : Int) ^ 32 = 4294967296 from by decide] at this
    rw [show (4294967295 : Int) = 4294967296 - 1 from by decide, this]
    omega
  have e2 : bits BinOp.and IntKind.u64 1 4294967295 = 1 := by decide
  have e3 : c / 4294967296 = 0 := by omega
  have e4 : bits BinOp.and IntKind.u64 0 4294967295 = 0 := by decide
  go_enter Try.func25, Try.ntmps25
  go_wp2_with fail
  go_ret2
  exact ⟨rfl, rfl⟩
set_option maxRecDepth 100000 in
theorem mul_to (c : Int) (h0 : 0 ≤ c) (h1 : c ≤ 2048) (w : World) : Calls Try.prog 21 #[.int .u64 1, .int .u64 c] w fun e w' => e = .returned (.tuple #[.int .u64 0, .int .u64 c]) ∧ w = w' := by
  have hm := mul64_to c h0 h1 w
  have HM := hid hm
  clear hm
  go_enter Try.func21, Try.ntmps21
  go_wp2_with fail
  refine HM.out.mono ?_
  rintro e w' ⟨rfl, rfl⟩
  go_wp2_with fail
  go_ret2
  exact ⟨rfl, rfl⟩

/-- So many of x, the rest nought. -/
def repC (x : Bool) (n c : Nat) : List Value := List.replicate n (Value.bool x) ++ List.replicate (c - n) (Value.bool false)
theorem repC_len (x : Bool) (n c : Nat) (h : n ≤ c) : (repC x n c).length = c := by
  simp only [repC, List.length_append, List.length_replicate]
  omega
theorem repC_splice (x : Bool) (n m c : Nat) (_ : n + m ≤ c) : splice (repC x n c) n (List.replicate m (Value.bool x)) = repC x (n + m) c := by
  unfold splice repC
  rw [List.take_left' (by simp), List.length_replicate, List.drop_append]
  simp only [List.drop_replicate, List.length_replicate]
  rw [show n - (n + m) = 0 by omega, show n + m - n = m by omega, show c - n - m = c - (n + m) by omega]
  simp [← List.append_assoc, List.replicate_append_replicate]
theorem repC_zero (x : Bool) (c : Nat) : repC x 0 c = List.replicate c (Value.bool false) := by simp [repC]
theorem repC_full (x : Bool) (c : Nat) : repC x c c = List.replicate c (Value.bool x) := by simp [repC]

set_option maxRecDepth 100000 in
set_option maxHeartbeats 800000 in
theorem repeat_to (x : Bool) (c : Nat) (h1 : 1 ≤ c) (h2 : c ≤ 2048) (b off cap : Nat) (w : World) (hc0 : w.cell? ⟨b, off, none⟩ = some (.bool x)) :
    Calls Try.prog 18 #[.slice (some ⟨b, off, none⟩) 1 cap, .int .i64 c] w fun e w' => ∃ v, e = .returned v ∧ OwnV 4 w.heap.size w' v (boolS (List.replicate c x)) ∧ Below w.heap.size w w' := by
  have hm := mul_to (c : Int) (by omega) (by omega) w
  have hb := World.block_lt_of_cell? w _ hc0
  have HM := hid hm
  clear hm
  have hd1 : decide ((c : Int) < 0) = false := by simp; try omega
  have hd2 : decide ((9223372036854775807 : Int) < (c : Int)) = false := by simp; omega
  have hw1 : IntKind.u64.wrap (c : Int) = c := by rw [IntKind.wrap_u64]; omega
  have hw2 : wrap64 (c : Int) = c := wrap64_idR _ (by omega) (by omega)
  go_enter Try.func18, Try.ntmps18
  go_wp2_with fail
  refine HM.out.mono ?_
  rintro e w' ⟨rfl, rfl⟩
  clear HM
  obtain ⟨i0, hi, hz0, hz1, hz2⟩ := info_parts infoR
  have hby : i0.bytes * c ≤ 281474976710656 := by rw [hz2]; omega
  go_wp2_with (at_make; refine wpList_make_full _ rfl _ _ 26 rfl w.heap.size 4 i0 (.bool false) 1 Try.underlying26 hi hz0 hz1 _ _ _ _ c rfl rfl rfl rfl hby (by unfold maxLen; omega) (Nat.le_refl _) ?_; intro w1 hrow hg1; have HROW := hid hrow; have HG1 := hid hg1; clear hrow hg1; apply stopR)
  refine hid ?_
  have hcur : w1.heap[w.heap.size]? = some (.cells (repC x 0 c).toArray 4 (0, 0)) := by
    rcases HROW.out.2 with ⟨e, _⟩ | ⟨g, cap', cur, e, _, hgc, _, _, hsz, htk⟩
    · simp at e
    · simp only [Value.slice.injEq, Option.some.injEq, Addr.mk.injEq] at e
      obtain ⟨⟨rfl, _⟩, _, rfl⟩ := e
      rw [hgc]
      have e2 : cur.toList = List.replicate c (Value.bool false) := by
        rw [List.take_of_length_le (by rw [Array.length_toList, hsz]; exact Nat.le_refl _)] at htk
        rw [htk]
        simp [madeCells, Value.cells, Nat.mod_one, List.map_const']
      rw [repC_zero, ← e2]
  have hb1 : Below w.heap.size w w1 := ⟨HG1.out.os, HG1.out.tape, HG1.out.output, HG1.out.size, fun k hk => HG1.out.block k hk (by simp)⟩
  have HB1 := hid hb1
  have hx1 : w1.cell? ⟨b, off, none⟩ = some (.bool x) := (hb1.cell (p := ⟨b, off, none⟩) hb).trans hc0
  have HX1 := hid hx1
  have HCUR := hid hcur
  clear hcur hx1 hb1 HROW hc0 HG1
  have hsz1 : (Try.prog.info? 4).map (·.size) = some 1 := by rw [hi]; simp [hz1]
  have hfit : 0 + [Value.bool x].length ≤ (repC x 0 c).length := by
    rw [repC_len _ _ _ (Nat.zero_le _)]
    show 0 + 1 ≤ c
    omega
  have hpos : ∀ j v, [Value.bool x][j]? = some v → w1.cell? ((⟨b, off, none⟩ : Addr).add j) = some v := fun j v hj => by
    cases j with
    | zero =>
      simp at hj
      subst hj
      rw [Addr.add_lit]
      exact HX1.out
    | succ j => simp at hj
  have HFIT := hid hfit
  have HPOS := hid hpos
  clear hfit hpos
  go_wp2_with (refine wpList_copy_splice rfl (.tmp 31) (.tmp 32) 26 26 rfl 4 Try.underlying26 hsz1 (some ⟨w.heap.size, 0, none⟩) (some ⟨b, off, none⟩) c c 1 cap rfl rfl w.heap.size 0 (repC x 0 c) 4 HCUR.out [.bool x] (Nat.min_eq_left h1).symm (fun _ => ⟨rfl, ⟨b, off, none⟩, rfl, HPOS.out⟩) HFIT.out (by simp [Value.oneCell']) w.heap.size w HB1.out (Nat.le_refl _) ?_; intro w2 hg2 hb2; have HB2 := hid hb2; clear hb2; apply stopR)
  refine hid ?_
  have hg3 : Hid (w2.heap[w.heap.size]? = some (.cells (repC x 1 c).toArray 4 (0, 0))) := by
    have := hg2.out
    have e := repC_splice x 0 1 c (by omega)
    rw [show List.replicate 1 (Value.bool x) = [Value.bool x] from rfl, Nat.zero_add] at e
    rw [e] at this
    exact this
  clear hg2 HCUR HB1 HX1
  go_wp2_with fail
  go_loopw [8] (fun n wr => ∃ k : Nat, 1 ≤ k ∧ k ≤ c ∧ n = .int .i64 k ∧ Hid (wr.heap[w.heap.size]? = some (.cells (repC x k c).toArray 4 (0, 0))) ∧ Below w.heap.size w wr) (fun n _ => c - (intOf n).toNat)
  case atStart => exact ⟨1, Nat.le_refl _, h1, rfl, hg3, HB2.out⟩
  case round =>
    obtain ⟨k, hk1, hkc, rfl, HK, hb⟩ := hrel
    have HB := hid hb
    clear hb hg3 HB2
    by_cases hk : k < c
    · have hcut1 := run_cut_l (P := Try.prog) 26 elem_b size_b (some ⟨w.heap.size, 0, none⟩) c c (k : Int) k rfl (by omega)
      have hcut2 := run_cut_h (P := Try.prog) 26 elem_b size_b (some ⟨w.heap.size, 0, none⟩) c c (k : Int) k rfl (by omega)
      have hca : cutAt (some ⟨w.heap.size, 0, none⟩) k c = some ⟨w.heap.size, k, none⟩ := by
        unfold cutAt
        rw [if_neg (by omega)]
        simp [Addr.add_lit]
      rw [hca] at hcut1
      obtain ⟨m, hm⟩ : ∃ m, Nat.min k (c - k) = m := ⟨_, rfl⟩
      obtain ⟨d, hd⟩ : ∃ d, c - k = d := ⟨_, rfl⟩
      rw [hd] at hcut1 hm
      have hmk : m ≤ k := by rw [← hm]; exact Nat.min_le_left _ _
      have hmd : m ≤ d := by rw [← hm]; exact Nat.min_le_right _ _
      have hm1 : 1 ≤ m := by rw [← hm]; exact Nat.le_min.2 ⟨hk1, by omega⟩
      have HM2 := hid hm
      clear hca hm
      have hsp := repC_splice x k m c (by omega)
      have hfit2 : k + (List.replicate m (Value.bool x)).length ≤ (repC x k c).length := by
        rw [repC_len _ _ _ hkc, List.length_replicate]
        omega
      have hsrc : ∀ j v, (List.replicate m (Value.bool x))[j]? = some v → wr.cell? ⟨w.heap.size, j, none⟩ = some v := by
        intro j v hj
        have hjm : j < m := by have := (List.getElem?_eq_some_iff.1 hj).1; simpa using this
        have hv : v = .bool x := by
          have := (List.getElem?_eq_some_iff.1 hj).2
          simpa using this.symm
        subst hv
        unfold World.cell?
        dsimp only
        rw [HK.out]
        have hjk : j < k := by omega
        show (repC x k c).toArray[j]? = _
        rw [List.getElem?_toArray]
        unfold repC
        rw [List.getElem?_append_left (by simpa using hjk), List.getElem?_replicate, if_pos hjk]
      have HSRC := hid hsrc
      have HSP := hid hsp
      have HFIT2 := hid hfit2
      clear hsrc hsp hfit2 HPOS HFIT
      go_wp2_with fail
      go_region_law (refine step_copy_splice rfl (.tmp 41) (.tmp 44) 26 26 rfl 4 Try.underlying26 hsz1 (some ⟨w.heap.size, k, none⟩) (some ⟨w.heap.size, 0, none⟩) d d k c (by simp [Act.eval, Act.put]) (by simp [Act.eval, Act.put]) w.heap.size k (repC x k c) 4 HK.out (List.replicate m (Value.bool x)) (by rw [List.length_replicate]; exact HM2.out.symm) (fun _ => ⟨rfl, _, rfl, fun j v hj => by rw [Addr.add_lit, Nat.zero_add]; exact HSRC.out j v hj⟩) HFIT2.out (by intro v hv; rw [List.eq_of_mem_replicate hv]; simp [Value.oneCell']) w.heap.size w HB.out.drew (Nat.le_refl _) ?_; intro w4 hg4 hb4; have HG4 := hid hg4.out; have HB4 := hid hb4; clear hg4 hb4)
      rw [HSP.out] at HG4
      have hw3 : IntKind.i64.wrap ((k : Int) + (m : Int)) = (k : Int) + m := IntWalk.i64_in _ (by omega)
      simp [Act.put, hw3]
      go_roundw
      case rel => exact ⟨.int .i64 ((k : Int) + m), _, _, _, _, _, _, _, _, _, _, _, _, _, ⟨k + m, by omega, by omega, by simp, HG4.out, HB4.out⟩, rfl⟩
      case measure => simp [intOf]; omega
    · have e0 : k = c := by omega
      subst e0
      have hown : Hid (OwnV 4 w.heap.size wr (.slice (some ⟨w.heap.size, 0, none⟩) k k) (boolS (List.replicate k x))) := by
        have e : boolS (List.replicate k x) = List.replicate k (Value.bool x) := by simp [boolS]
        rw [e]
        refine ⟨⟨by simp, .inr ⟨w.heap.size, k, (repC x k k).toArray, by simp, Nat.le_refl _, HK.out, by simp, by unfold maxLen; omega, by simp [repC_full], by simp [repC_full]⟩⟩⟩
      clear HK
      go_wp2_with fail
      exact bodyPost_ret (v := .slice (some ⟨w.heap.size, 0, none⟩) k k) (by simp [results, Try.results18, go_sem]) rfl ⟨_, rfl, hown.out, HB.out⟩
set_option maxRecDepth 100000 in
theorem repeat_none (x : Bool) (b off cap : Nat) (w : World) (hc0 : w.cell? ⟨b, off, none⟩ = some (.bool x)) :
    Calls Try.prog 18 #[.slice (some ⟨b, off, none⟩) 1 cap, .int .i64 0] w fun e w' => ∃ v, e = .returned v ∧ OwnV 4 w.heap.size w' v [] ∧ Below w.heap.size w w' := by
  have hm := mul_to 0 (by omega) (by omega) w
  have HM := hid hm
  have hmk := makeR0 w
  clear hm
  go_enter Try.func18, Try.ntmps18
  go_wp2_with fail
  refine HM.out.mono ?_
  rintro e w' ⟨rfl, rfl⟩
  clear HM
  obtain ⟨i0, hi, hz0, hz1, hz2⟩ := info_parts infoR
  have hsz1 : (Try.prog.info? 4).map (·.size) = some 1 := by rw [hi]; simp [hz1]
  go_wp2_with (refine wpList_copy_nothing rfl (.tmp 31) (.tmp 32) 26 26 rfl 4 Try.underlying26 hsz1 (some ⟨w.heap.size, 0, none⟩) (some ⟨b, off, none⟩) 0 0 1 cap rfl rfl rfl ?_)
  go_wp2_with fail
  refine wp_loop_rounds 1 ?_
  rw [rounds_succ]
  go_wp2_with fail
  go_ret
  exact ⟨_, rfl, ⟨⟨rfl, .inr ⟨w.heap.size, 0, #[], rfl, Nat.le_refl _, heap_alloc_new w _, Nat.le_refl _, Nat.zero_le _, rfl, rfl⟩⟩⟩, Bl.alloc (Bl.refl w) _⟩
end Go.Proofs.Ytjihemgidogoeaa
