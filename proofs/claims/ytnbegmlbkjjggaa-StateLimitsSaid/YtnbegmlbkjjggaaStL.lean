/- state's laws: StateLimits's walk, over StSpec. Written by gen_stlim.py. -/
import Derived.Test.YtnbegmlbkjjggaaStO
import Derived.Deep.AppendLies
import Derived.Deep.RegionLaw
namespace Go.Proofs.Ytnbegmlbkjjggaa
open Go.RowKit
set_option linter.unusedVariables false

theorem and_three (n : Int) : ∃ k : Nat, bits BinOp.and IntKind.i64 n 3 = k ∧ k < 4 := by
  rw [show (3 : Int) = 2 ^ 2 - 1 from by decide, bits_and_mask .i64 2 (by decide) (fun n h0 h1 => IntWalk.i64_in n (by rw [show (2 : Int) ^ 2 = 4 from by decide] at h1; omega))]
  rw [show (2 : Int) ^ 2 = 4 from by decide]
  exact ⟨(n % 4).toNat, by omega, by omega⟩
theorem made_get (cs : Array Value) (n s : Nat) (hs : cs.size = s) (h0 : 0 < s) : (madeCells cs (n * s)).toList = (List.replicate n cs.toList).flatten := by
  refine List.ext_getElem? fun k => ?_
  have hw : ∀ r ∈ List.replicate n cs.toList, r.length = s := fun r hr => by rw [(List.mem_replicate.1 hr).2]; simpa using hs
  rcases Nat.lt_or_ge k (n * s) with h | h
  · have h1 : k / s < n := Nat.div_lt_of_lt_mul (by rwa [Nat.mul_comm] at h)
    have h2 : k % s < s := Nat.mod_lt _ h0
    have e : k / s * s + k % s = k := Nat.div_add_mod' k s
    have h3 := flat_get s (List.replicate n cs.toList) (k / s) (k % s) hw (by simpa using h1) h2
    rw [e] at h3
    rw [h3]
    have h4 : (List.replicate n cs.toList).getD (k / s) [] = cs.toList := by simp [List.getD, h1]
    rw [h4]
    have hz : k % s < cs.size := by rw [hs]; exact h2
    unfold madeCells
    simp [h, hs]
    rw [getElem!_pos cs (k % s) hz, Array.getElem?_eq_getElem hz]
  · rw [List.getElem?_eq_none (by simpa [madeCells] using h), List.getElem?_eq_none (by rw [flat_len' s _ hw]; simpa using h)]
/-- 'make([]T, n)', T a record of s cells. -/
theorem make_c {P : Program} (t E : TypeId) (z : Value) (s bytes : Nat) (ht : P.underlying t = some (.slice E)) (hi : (P.info? E).map (fun i => (i.zero, i.size, i.bytes)) = some (some z, s, bytes)) (hzs : z.cells.size = s) (h0 : 0 < s) (n : Nat) (hn : n ≤ 2000) (hb : bytes ≤ 1000) (hs : s ≤ 100) (w : World) :
    ∃ w', (Instr.makeSlice t (.int .i64 (n : Int)) (.int .i64 (n : Int))).run P w = .ok (.slice (some ⟨w.heap.size, 0, none⟩) n n) w' ∧ OwnC E s w.heap.size w' (.slice (some ⟨w.heap.size, 0, none⟩) n n) (List.replicate n z.cells.toList) ∧ Below w.heap.size w w' := by
  obtain ⟨i, hi0, hz, hsz, hby⟩ := info_parts hi
  have h1 : n * s ≤ 2000 * 100 := Nat.mul_le_mul hn hs
  have h2 : i.bytes * n ≤ 1000 * 2000 := by rw [hby]; exact Nat.mul_le_mul hb hn
  obtain ⟨w', hr, ho, hg⟩ := run_makeSlice_full (P := P) (w := w) w.heap.size t E i z s ht hi0 hz hsz .i64 .i64 n (by omega) (by omega) (by unfold maxLen; omega) (Nat.le_refl _)
  refine ⟨w', hr, ⟨?_, fun r hr => ?_⟩, (Below.refl _ _).grown hg (Nat.le_refl _) (fun _ h => by cases h)⟩
  · rw [← made_get z.cells n s hzs h0, List.length_replicate]
    exact ho
  · rw [(List.mem_replicate.1 hr).2]
    simpa using hzs
theorem wpList_make_c {P : Program} {w : World} {ops : Array Oper} {rest : List Oper} {o : Oper} {a : Act} {Q : Exit → Act → World → Prop} (hgd : o.guard = none) (t E : TypeId) (x y : Operand) (ho : o.op = .makeSlice t x y) (z : Value) (s bytes : Nat) (ht : P.underlying t = some (.slice E)) (hi : (P.info? E).map (fun i => (i.zero, i.size, i.bytes)) = some (some z, s, bytes)) (hzs : z.cells.size = s) (h0 : 0 < s) (n : Nat) (hx : a.eval x = .int .i64 n) (hy : a.eval y = .int .i64 n) (hn : n ≤ 2000) (hb : bytes ≤ 1000) (hs : s ≤ 100)
    (h : ∀ w', OwnC E s w.heap.size w' (.slice (some ⟨w.heap.size, 0, none⟩) n n) (List.replicate n z.cells.toList) → Below w.heap.size w w' → wpList P ops Q rest (a.put o.dst (.slice (some ⟨w.heap.size, 0, none⟩) n n)) w') : wpList P ops Q (o :: rest) a w := by
  obtain ⟨w', hr, h1, h2⟩ := make_c (P := P) t E z s bytes ht hi hzs h0 n hn hb hs w
  refine wpList_plain hgd fun K hK => ?_
  unfold Oper.wp execOp
  simp only [ho, hx, hy, hr, Sem.run_bind, Sem.run_pure, Result.andThen_ok]
  exact hK _ _ (h _ h1 h2)
def IsMkC (E : TypeId) (s B n : Nat) (cs : List Value) : Value → World → Prop := fun v w => ∃ g, v = .slice (some ⟨g, 0, none⟩) n n ∧ OwnC E s B w v (List.replicate n cs)
theorem Stays.mkc (E : TypeId) (s B n : Nat) (cs : List Value) : Stays (IsMkC E s B n cs) := fun _ _ _ ⟨g, e, h⟩ hb => ⟨g, e, h.below hb (Nat.le_refl _)⟩
theorem OwnC.toG {α : Type} {E : TypeId} {s B n : Nat} {w : World} {v : Value} {cs : List Value} {R : World → List Value → α → Prop} {x : α} (h : OwnC E s B w v (List.replicate n cs)) (hR : ∀ w, R w cs x) : OwnG E s R B w v (List.replicate n x) :=
  ⟨_, by simp, h, fun i c y h1 h2 => by
    have e1 := (List.mem_replicate.1 (List.mem_of_getElem? h1)).2
    have e2 := (List.mem_replicate.1 (List.mem_of_getElem? h2)).2
    subst e1 e2
    exact fun w' _ => hR w'⟩
def zeroF : Fm := ⟨0, 0, [], 0, []⟩
def vals' (k : Int) (n : Nat) : List (Int × Int) := (List.range n).map fun (i : Nat) => (k, (i : Int))
theorem vals_snoc (k : Int) (n : Nat) : vals' k (n + 1) = vals' k n ++ [(k, (n : Int))] := by simp [vals', List.range_succ]
theorem vals_len (k : Int) (n : Nat) : (vals' k n).length = n := by simp [vals']
theorem vals_ok (k : Int) (n : Nat) (hk : k = 1 ∨ k = 2) (hn : n ≤ 2000) : (vals' k n).all okV = true := by
  rw [List.all_eq_true]
  intro v hv
  obtain ⟨i, hi, rfl⟩ := List.mem_map.1 hv
  have := List.mem_range.1 hi
  rcases hk with rfl | rfl
  · simp [okV, okv]; omega
  · simp [okV, okv]
theorem wf_m1 : (Lit.int .i64 (-1)).wf = true := by decide
theorem may0 (K : Nat) (n : Int) (hK : (1000 : Int) + n = K) (h : n ≤ 2) : mayS ⟨vals' 1 K, [zeroF], -1⟩ = decide (n ≤ 0) := by
  have h1 := vals_ok 1 K (.inl rfl) (by omega)
  simp [mayS, vals_len, h1, mayF, zeroF, okN]
  omega
theorem may1 (K : Nat) (n : Int) (hK : (32 : Int) + n = K) (h : n ≤ 2) : mayS ⟨[], List.replicate K zeroF, -1⟩ = decide (n ≤ 0) := by
  have h1 : (List.replicate K zeroF).all mayF = true := by
    rw [List.all_eq_true]
    intro f hf
    rw [(List.mem_replicate.1 hf).2]
    decide
  simp [mayS, h1]
  omega
theorem may2 (K : Nat) (n : Int) (hK : (32 : Int) + n = K) (h : n ≤ 2) : mayS ⟨[], [⟨0, 0, vals' 2 K, 0, []⟩], -1⟩ = decide (n ≤ 0) := by
  have h1 := vals_ok 2 K (.inr rfl) (by omega)
  simp [mayS, vals_len, h1, mayF, okN]
  omega
theorem may3 (K : Nat) (n : Int) (hK : (40 : Int) + n = K) (h : n ≤ 2) : mayS ⟨[], [⟨0, 0, [], 0, List.replicate K (0, 0)⟩], -1⟩ = decide (n ≤ 0) := by
  have h1 : (List.replicate K ((0 : Int), (0 : Int))).all okL = true := by
    rw [List.all_eq_true]
    intro f hf
    rw [(List.mem_replicate.1 hf).2]
    decide
  simp [mayS, h1, mayF, okN]
  omega

set_option maxRecDepth 100000 in
set_option maxHeartbeats 8000000 in
theorem stateLimits_walk (X : StSpec) (wh n : Int) (w : World) :
    Calls Try.prog 6 #[.int .i64 wh, .int .i64 n] w fun e w' => e = .returned (.bool true) ∧ Below w.heap.size w w' := by
  obtain ⟨k3, hk3, hk4⟩ := and_three wh
  obtain ⟨M, hM⟩ : ∃ M : Nat, ([.int .i64 1000, .int .i64 32, .int .i64 32, .int .i64 40] : List Value)[k3]? = some (.int .i64 M) ∧ 32 ≤ M ∧ M ≤ 1000 ∧ (k3 = 0 → M = 1000) ∧ (k3 = 1 → M = 32) ∧ (k3 = 2 → M = 32) ∧ (k3 = 3 → M = 40) := by
    match k3, hk4 with
    | 0, _ => exact ⟨1000, by simp⟩
    | 1, _ => exact ⟨32, by simp⟩
    | 2, _ => exact ⟨32, by simp⟩
    | 3, _ => exact ⟨40, by simp⟩
  obtain ⟨hM0, hM1, hM2, hM3⟩ := hM
  have HM3 := hid hM3
  clear hM3
  go_enter Try.func6, Try.ntmps6
  go_wp2_with fail
  refine (begun_to X w).mono ?_
  rintro e w1 ⟨rfl, hb⟩
  have HB1 := hid hb
  clear hb
  have htab := (Cel.new w1 [.int .i64 1000, .int .i64 32, .int .i64 32, .int .i64 40] 3).cell k3 (.int .i64 M) hM0
  simp only [List.toArray] at htab
  have hk5 : (k3 : Int) < 4 := by omega
  go_upto_region 5 with fail
  obtain ⟨w2, hw2⟩ : ∃ w2, w1.alloc (.cells #[.int .i64 1000, .int .i64 32, .int .i64 32, .int .i64 40] 3) = w2 := ⟨_, rfl⟩
  have HB2 : Hid (Below w.heap.size w w2) := hid (by rw [← hw2]; exact Bl.step HB1.out (Bl.alloc (Bl.refl w1) _))
  rw [hw2]
  clear htab hw2 HB1 hM0
  by_cases hn1 : n < -2
  · go_wp2_with fail
    go_ret
    exact ⟨rfl, HB2.out⟩
  by_cases hn2 : 2 < n
  · go_wp2_with fail
    go_ret
    exact ⟨rfl, HB2.out⟩
  obtain ⟨K, hK⟩ : ∃ K : Nat, (M : Int) + n = K := ⟨((M : Int) + n).toNat, by omega⟩
  have hK1 : 30 ≤ K ∧ K ≤ 1002 := by omega
  go_upto_block 0 with fail
  obtain ⟨z, hz⟩ : ∃ z, w2.heap.size = z := ⟨_, rfl⟩
  rw [hz]
  obtain ⟨w3, hw3⟩ : ∃ w3, (w2.alloc (.cells #[.int .i64 0, .int .i64 0, .slice none 0 0, .int .i64 0, .slice none 0 0] 42)).alloc (.cells #[.slice none 0 0, .slice (some ⟨z, 0, none⟩) 1 1, .int .i64 (-1)] 25) = w3 := ⟨_, rfl⟩
  rw [hw3]
  have hz1 : (w2.alloc (.cells #[.int .i64 0, .int .i64 0, .slice none 0 0, .int .i64 0, .slice none 0 0] 42)).heap.size = z + 1 := by simp [hz]
  have hcz : Cel w3 z [.int .i64 0, .int .i64 0, .slice none 0 0, .int .i64 0, .slice none 0 0] := by rw [← hw3, ← hz]; exact (Cel.new w2 [.int .i64 0, .int .i64 0, .slice none 0 0, .int .i64 0, .slice none 0 0] 42).al (Nat.succ_pos _) _
  have hcq : Cel w3 (z + 1) [.slice none 0 0, .slice (some ⟨z, 0, none⟩) 1 1, .int .i64 (-1)] := by
    have := Cel.new (w2.alloc (.cells #[.int .i64 0, .int .i64 0, .slice none 0 0, .int .i64 0, .slice none 0 0] 42)) [.slice none 0 0, .slice (some ⟨z, 0, none⟩) 1 1, .int .i64 (-1)] 25
    rw [hz1] at this
    rw [← hw3]; exact this
  have hz3 : w3.heap.size = z + 2 := by rw [← hw3]; simp [hz]
  have HB3 : Hid (Below z w2 w3) := hid (by rw [← hw3, ← hz]; exact Bl.alloc (Bl.alloc (Bl.refl _) _) _)
  have HZ := hid hz; have HCZ := hid hcz; have HCQ := hid hcq; have HZ3 := hid hz3
  clear hw3 hz hz1 hcz hcq hz3
  have HKK := hid hK
  go_cut [8] from 36 (fun u wc => u = .int .i64 K ∧ ∃ (vo : Option Addr) (vn vc : Nat) (fo : Option Addr) (fn fc : Nat) (S : St), Hid (Cel wc (z + 1) [.slice vo vn vc, .slice fo fn fc, .int .i64 S.asks]) ∧ Hid (StR ⟨vo, vn, vc, fo, fn, fc⟩ S wc) ∧ Hid (mayS S = decide (n ≤ 0)) ∧ Hid (Below z w2 wc) ∧ z + 1 < wc.heap.size)
  case first =>
    have hq3 : z + 1 < w3.heap.size := by rw [HZ3.out]; exact Nat.lt_succ_self _
    obtain hk | hk | hk | hk : k3 = 0 ∨ k3 = 1 ∨ k3 = 2 ∨ k3 = 3 := by omega
    ·
      subst hk
      obtain rfl : M = 1000 := HM3.out.1 rfl
      go_wp2_with fail
      go_loopw [9] (fun i wr => ∃ (j : Nat) (v : Value), j ≤ K ∧ i = .int .i64 j ∧ Hid (Below z w2 wr) ∧ Hid (Cel wr (z + 1) [v, .slice (some ⟨z, 0, none⟩) 1 1, .int .i64 (-1)]) ∧ Hid (OwnG 39 2 PaR (z + 2) wr v (vals' 1 j)) ∧ Hid (Bx (fun b => z ≤ b ∧ b < z + 2 ∧ b ≠ (z + 1)) wr (fun w => Cel w z [.int .i64 0, .int .i64 0, .slice none 0 0, .int .i64 0, .slice none 0 0])) ∧ Hid (z + 2 ≤ wr.heap.size)) (fun i _ => K - (intOf i).toNat)
      case atStart => exact ⟨0, _, Nat.zero_le _, rfl, HB3, HCQ, hid (by simpa [vals'] using OwnG.nil _ _ _ _ _), hid (HCZ.out.bx ⟨Nat.le_refl _, by omega, by omega⟩), hid (Nat.le_of_eq HZ3.out.symm)⟩
      case round =>
        clear HB3 HCQ HCZ
        obtain ⟨j, v, hjk, rfl, HB, HQ, HO, HPR, HSR⟩ := hrel
        have hsr := HSR.out
        obtain ⟨so, sc, rfl, hsh1, hsh2, _⟩ := HO.out.shape
        rw [vals_len] at HO HQ hsh1
        have q0 := HQ.out.cell 0 _ rfl
        have hqr : z + 1 < wr.heap.size := by omega
        by_cases hj : j < K
        · go_wp2_with (at_builtin; apply stopHere)
          refine hid ?_
          have hC : Below wr.heap.size wr (wr.alloc (.cells #[.int .i64 1, .int .i64 j] 39)) := Bl.alloc (Bl.refl _) _
          refine wpList_append_g rfl (.tmp 50) (.tmp 53) 22 rfl _ _ Try.underlying22 infoVal rfl (by decide) rfl (HO.out.alloc _) (by simp; omega) wr.heap.size [.int .i64 1, .int .i64 j] rfl rfl (Cel.new wr [.int .i64 1, .int .i64 j] 39).cell (by simp [Value.oneCell']) (1, (j : Int)) (pa_bx (by decide) (wf_small _ (by omega) (by omega))) (by rw [vals_len]; omega) (by rw [vals_len]; omega) ?_
          intro v2 w5 o1 o2
          rw [← vals_snoc] at o1
          obtain ⟨so2, sc2, hve2, _, _, _⟩ := o1.shape
          rw [vals_len] at hve2
          obtain rfl : v2 = .slice so2 (j + 1) sc2 := hve2
          obtain ⟨hb2, hc2, hp2, hs2⟩ := cut_mid HB.out HQ.out HO.out HPR.out (by omega) (by omega) hsr hC o2 (Nat.succ_pos _)
          have hck2 := hc2.cell 0 _ rfl
          have hfk2 := hc2.fro 0 _ rfl
          have hq2 : z + 1 < w5.heap.size := by omega
          have HE := hid (cut_end hb2 hc2 o1 hp2 (by omega) (by omega) hs2 (by rw [HZ.out]; exact Nat.le_refl _) 0 (.slice so2 (j + 1) sc2) (by simp))
          clear hb2 hc2 hp2 hs2 o1 o2 hC q0
          go_wp2_with fail
          clear hck2 hfk2
          go_roundw
          case rel =>
            obtain ⟨e1, e2, e3, e4, e5⟩ := HE.out
            exact ⟨j + 1, .slice so2 (j + 1) sc2, by omega, by go_num, hid e1, hid e2, hid e3, hid e4, hid e5⟩
          case measure => simp [intOf]; omega
        · obtain rfl : j = K := by omega
          obtain ⟨ao, cap, hsl, hrx⟩ := HO.out.rx
          rw [vals_len] at hsl hrx
          obtain ⟨rfl, rfl⟩ : so = ao ∧ sc = cap := by simpa using hsl
          have hrz := rdF1 HPR.out.now (RdG.empty _) (RdG.empty _) (by decide) (by decide) (by decide)
          have HST := hid (show StR ⟨so, j, sc, some ⟨z, 0, none⟩, 1, 1⟩ ⟨vals' 1 j, [zeroF], -1⟩ wr from ⟨hrx.now, hrz, wf_m1⟩)
          clear hrx hsl hrz q0
          go_wp2_with fail
          go_meet
          case rel => exact ⟨rfl, so, j, sc, some ⟨z, 0, none⟩, 1, 1, ⟨vals' 1 j, [zeroF], -1⟩, HQ, HST, hid (may0 j n HKK.out (by omega)), HB, hqr⟩
    ·
      subst hk
      obtain rfl : M = 32 := HM3.out.2.1 rfl
      have q1 := HCQ.out.cell 1 _ rfl
      have fq1 := HCQ.out.fro 1 _ rfl
      go_wp2_with (first
        | (refine wpList_make_c rfl 23 42 (.tmp 58) (.tmp 58) rfl (.agg #[.int .i64 0, .int .i64 0, .slice none 0 0, .int .i64 0, .slice none 0 0]) 5 72 Try.underlying23 infoFr rfl (by decide) K rfl rfl (by omega) (by decide) (by decide) ?_; intro w4 h4 b4; have H4 := hid h4; have B4 := hid b4; have q2 := (b4.cell (p := ⟨z + 1, 1, none⟩) hq3).trans q1; have fq2 := (World.frozen?_of_block (a := ⟨z + 1, 1, none⟩) (b4.block (z + 1) hq3)).trans fq1; have hq4 := Nat.lt_of_lt_of_le hq3 b4.size; clear h4 b4)
        | fail)
      go_meet
      case rel =>
        have hg := H4.out.toG (R := FrR) (x := zeroF) (fun w => ⟨none, 0, 0, none, 0, 0, rfl, RdG.empty _, RdG.empty _, by decide, by decide, by decide⟩)
        have hg2 := hg.kept (grown_set w4 ⟨z + 1, 1, none⟩ (.slice (some ⟨w3.heap.size, 0, none⟩) K K)) (fun p e => by have e2 : z + 1 = p := (by simpa using e); omega)
        obtain ⟨ao, cap, hsl, hrx⟩ := hg2.rx
        rw [List.length_replicate] at hsl hrx
        obtain ⟨rfl, rfl⟩ : some ⟨w3.heap.size, 0, none⟩ = ao ∧ K = cap := by simpa using hsl
        refine ⟨rfl, none, 0, 0, some ⟨w3.heap.size, 0, none⟩, K, K, ⟨[], List.replicate K zeroF, -1⟩, hid ?_, hid ⟨RdG.empty _, hrx.now, wf_m1⟩, hid (may1 K n HKK.out (by omega)), hid ((HB3.out.trans (B4.out.mono (by omega))).setCell (p := ⟨z + 1, 1, none⟩) (by show z ≤ z + 1; omega) _), by simpa using hq4⟩
        exact ((HCQ.out.keep hq3 B4.out).set 1 (.slice (some ⟨w3.heap.size, 0, none⟩) K K) (by simp))
    ·
      subst hk
      obtain rfl : M = 32 := HM3.out.2.2.1 rfl
      go_wp2_with fail
      go_loopw [10] (fun i wr => ∃ (j : Nat) (v : Value), j ≤ K ∧ i = .int .i64 j ∧ Hid (Below z w2 wr) ∧ Hid (Cel wr z [.int .i64 0, .int .i64 0, v, .int .i64 0, .slice none 0 0]) ∧ Hid (OwnG 39 2 PaR (z + 2) wr v (vals' 2 j)) ∧ Hid (Bx (fun b => z ≤ b ∧ b < z + 2 ∧ b ≠ z) wr (fun w => Cel w (z + 1) [.slice none 0 0, .slice (some ⟨z, 0, none⟩) 1 1, .int .i64 (-1)])) ∧ Hid (z + 2 ≤ wr.heap.size)) (fun i _ => K - (intOf i).toNat)
      case atStart => exact ⟨0, _, Nat.zero_le _, rfl, HB3, HCZ, hid (by simpa [vals'] using OwnG.nil _ _ _ _ _), hid (HCQ.out.bx ⟨by omega, by omega, by omega⟩), hid (Nat.le_of_eq HZ3.out.symm)⟩
      case round =>
        clear HB3 HCQ HCZ
        obtain ⟨j, v, hjk, rfl, HB, HQ, HO, HPR, HSR⟩ := hrel
        have hsr := HSR.out
        obtain ⟨so, sc, rfl, hsh1, hsh2, _⟩ := HO.out.shape
        rw [vals_len] at HO HQ hsh1
        have hqr : z + 1 < wr.heap.size := by omega
        have hzr : z < wr.heap.size := by omega
        by_cases hj : j < K
        · obtain ⟨i1, hi1, hy0, hy1, hy2⟩ := info_parts infoVal
          have hC : Below wr.heap.size wr (wr.alloc (.cells #[.int .i64 2, .int .i64 j] 39)).drew := (Bl.alloc (Bl.refl wr) _).drew
          have hOd := HO.out.below hC (Nat.le_refl _)
          obtain ⟨css, hcl, hcc, hcx⟩ := hOd.row
          have HCL := hid hcl; have HCC := hid hcc; have HCX := hid hcx
          have hnw : ∀ i u, [Value.int .i64 2, .int .i64 j][i]? = some u → (wr.alloc (.cells #[.int .i64 2, .int .i64 j] 39)).drew.cell? ((⟨wr.heap.size, 0, none⟩ : Addr).add i) = some u := World.news_of_block (heap_alloc_new wr _)
          have HNW := hid hnw
          have HROW := hid (hcc.rowN (n := j) (by rw [hcl, vals_len]))
          have HHC := hid hC
          have q1 := HPR.out.now.cell 1 _ rfl
          have f2 := HQ.out.cell 2 _ rfl
          clear hOd hcl hcc hcx hnw hC
          go_wp2_with fail
          go_region_law (refine step_append_lies _ rfl (.tmp 74) (.tmp 77) 22 rfl (z + 2) 39 i1 _ 2 16 Try.underlying22 hi1 hy0 hy1 hy2 rfl (by decide) (.slice so j sc) j _ rfl HROW.out ⟨wr.heap.size, 0, none⟩ 1 1 [.int .i64 2, .int .i64 j] rfl rfl HNW.out (by simp [Value.oneCell']) (by decide) (by unfold maxLen; omega) (by omega) (by simp; omega) (wr.heap.size + 1) (by simp) ?_; intro g cap2 w5 o2 g2 hg2 _
                         have hO5 := OwnG.step HCL.out HCC.out HCX.out (x := (2, (j : Int))) rfl (pa_bx (by decide) (wf_small _ (by omega) (by omega))) (by rw [vals_len]) o2 g2 hg2 (by simp)
                         rw [← vals_snoc] at hO5
                         obtain ⟨hb2, hc2, hp2, hs2⟩ := cut_mid HB.out HQ.out HO.out HPR.out (Nat.le_refl _) (by omega) hsr HHC.out g2 (Nat.succ_pos _)
                         have m1 := hc2.cell 2 _ rfl
                         have m2 := hc2.fro 2 _ rfl
                         have m3 := hp2.now.cell 1 _ rfl
                         have m4 : z < w5.heap.size := by omega
                         have HE := hid (cut_end hb2 hc2 hO5 hp2 (Nat.le_refl _) (by omega) hs2 (by rw [HZ.out]; exact Nat.le_refl _) 2 (.slice (some ⟨g, 0, none⟩) (j + 1) cap2) (by simp))
                         clear o2 g2 hg2 hO5 hb2 hc2 hp2 hs2)
          all_goals
            clear q1 f2
            go_wp2_with fail
            go_roundw
            case rel =>
              obtain ⟨e1, e2, e3, e4, e5⟩ := HE.out
              exact ⟨j + 1, .slice (some ⟨g, 0, none⟩) (j + 1) cap2, by omega, by go_num, hid e1, hid e2, hid e3, hid e4, hid e5⟩
            case measure => simp [intOf]; omega
        · obtain rfl : j = K := by omega
          obtain ⟨ao, cap, hsl, hrx⟩ := HO.out.rx
          rw [vals_len] at hsl hrx
          obtain ⟨rfl, rfl⟩ : so = ao ∧ sc = cap := by simpa using hsl
          have hrz := rdF1 HQ.out hrx.now (RdG.empty _) (by decide) (by decide) (by decide)
          have HST := hid (show StR ⟨none, 0, 0, some ⟨z, 0, none⟩, 1, 1⟩ ⟨[], [⟨0, 0, vals' 2 j, 0, []⟩], -1⟩ wr from ⟨RdG.empty _, hrz, wf_m1⟩)
          have HCW := hid HPR.out.now
          clear hrx hsl hrz
          go_wp2_with fail
          go_meet
          case rel => exact ⟨rfl, none, 0, 0, some ⟨z, 0, none⟩, 1, 1, ⟨[], [⟨0, 0, vals' 2 j, 0, []⟩], -1⟩, HCW, HST, hid (may2 j n HKK.out (by omega)), HB, hqr⟩
    ·
      subst hk
      obtain rfl : M = 40 := HM3.out.2.2.2 rfl
      go_wp2_with fail
      refine wp_region_below_tail 6 (by kernel_rfl) [Is ?vD0, Is (.slice (some ⟨z, 0, none⟩) 1 1), Is (.int .i64 K), IsMkC 44 2 (z + 2) K [.int .i64 0, .int .i64 0], Is ?vD4, Is ?vD5] _ rfl (by kernel_rfl) rfl (by kernel_rfl) ?hopD ?hstD ?hendD
      case hopD =>
        refine ⟨rq _ _ _ [(7, .pointer (some ⟨z + 1, 0, none⟩))] ⟨⟨by kernel_rfl, rfl⟩, trivial⟩ ?_, ?_⟩
        · intro a w1 hC e7
          refine Or.inl ⟨_, ?_, rfl⟩
          go_simp
          rfl
        refine ⟨rq _ _ _ [] trivial ?_, ?_⟩
        · intro a w1 hC  (h0 : a.tmps.getD 36 undef = _)
          refine Or.inl ⟨.slice (some ⟨z, 0, none⟩) 1 1, ?_, rfl⟩
          have f0 := (HCQ.out.below (Nat.succ_pos _) hC).cell 1 _ rfl
          go_simp
        refine ⟨rq _ _ _ [(8, .int .i64 K)] ⟨⟨by kernel_rfl, rfl⟩, trivial⟩ ?_, ?_⟩
        · intro a w1 hC e8
          refine Or.inl ⟨.int .i64 K, ?_, rfl⟩
          go_simp
        refine ⟨rq _ _ _ [] trivial ?_, ?_⟩
        · intro a w1 hC  (h2 : a.tmps.getD 38 undef = _) _
          obtain ⟨w4, hrun, h4, b4⟩ := make_c (P := Try.prog) 40 44 (.agg #[.int .i64 0, .int .i64 0]) 2 16 Try.underlying40 infoLab rfl (by decide) K (by omega) (by decide) (by decide) w1
          refine Or.inr (Or.inr ⟨.slice (some ⟨w1.heap.size, 0, none⟩) K K, w4, ?_, ⟨_, rfl, h4.lift (by have := hC.size; rw [HZ3.out] at this; exact this)⟩, b4⟩)
          have h2z : a.tmps[38]?.getD undef = .int .i64 K := by simpa using h2
          go_simp
        refine ⟨rq _ _ _ [] trivial ?_, ?_⟩
        · intro a w1 hC  (h1 : a.tmps.getD 37 undef = _) (h0 : a.tmps.getD 36 undef = _) _ (h2 : a.tmps.getD 38 undef = _) h3
          refine Or.inl ⟨_, ?_, rfl⟩
          go_simp
          first | (go_bits; rfl) | rfl | (rw [if_pos (by omega)])
        refine ⟨rq _ _ _ [] trivial ?_, ?_⟩
        · intro a w1 hC  (h4 : a.tmps.getD 40 undef = _) (h0 : a.tmps.getD 36 undef = _) (h1 : a.tmps.getD 37 undef = _) (h2 : a.tmps.getD 38 undef = _) h3
          refine Or.inl ⟨_, ?_, rfl⟩
          go_simp
          rfl
        exact trivial
      case hstD => repeat (first | exact trivial | refine ⟨Stays.is _, ?_⟩ | refine ⟨Stays.mkc _ _ _ _ _, ?_⟩)
      case hendD =>
        intro w1 hC
        rintro _ rfl _ rfl _ rfl
        intro x3 h3
        rintro _ rfl _ rfl
        obtain ⟨g, rfl, ho⟩ := h3
        have hs1 := hC.size
        rw [HZ3.out] at hs1
        have hcz := HCZ.out.below (Nat.succ_pos _) hC
        have hcq := HCQ.out.below (Nat.succ_pos _) hC
        have hck := hcz.cell 4 _ rfl
        have hfk := hcz.fro 4 _ rfl
        have hz1 : z < w1.heap.size := by omega
        have HE : Hid (Cel (w1.setCell ⟨z, 4, none⟩ (.slice (some ⟨g, 0, none⟩) K K)) (z + 1) [.slice none 0 0, .slice (some ⟨z, 0, none⟩) 1 1, .int .i64 (-1)] ∧ StR ⟨none, 0, 0, some ⟨z, 0, none⟩, 1, 1⟩ ⟨[], [⟨0, 0, [], 0, List.replicate K (0, 0)⟩], -1⟩ (w1.setCell ⟨z, 4, none⟩ (.slice (some ⟨g, 0, none⟩) K K)) ∧ Below z w2 (w1.setCell ⟨z, 4, none⟩ (.slice (some ⟨g, 0, none⟩) K K)) ∧ z + 1 < (w1.setCell ⟨z, 4, none⟩ (.slice (some ⟨g, 0, none⟩) K K)).heap.size) := hid (by
          have hg := ho.toG (R := PaR) (x := ((0 : Int), (0 : Int))) (fun w => ⟨rfl, by decide, by decide⟩)
          have hg2 := hg.kept (grown_set w1 ⟨z, 4, none⟩ (.slice (some ⟨g, 0, none⟩) K K)) (fun p e => by have e2 : z = p := (by simpa using e); omega)
          obtain ⟨ao, cap, hsl, hrx⟩ := hg2.rx
          rw [List.length_replicate] at hsl hrx
          obtain ⟨rfl, rfl⟩ : some ⟨g, 0, none⟩ = ao ∧ K = cap := by simpa using hsl
          have hc2 := hcz.set 4 (.slice (some ⟨g, 0, none⟩) K K) (by simp)
          exact ⟨hcq.other (by omega) 4 _, ⟨RdG.empty _, rdF1 hc2 (RdG.empty _) hrx.now (by decide) (by decide) (by decide), wf_m1⟩, (HB3.out.trans (hC.mono (by rw [HZ3.out]; omega))).setCell (p := ⟨z, 4, none⟩) (Nat.le_refl _) _, by simp; omega⟩)
        clear ho hcz hcq hC hs1
        simp only [Ends, Act.put, List.setIfInBounds_toArray, List.set_cons_succ, List.set_cons_zero, List.drop_succ_cons, List.drop_zero]
        go_wp2_with fail
        go_meet
        case rel =>
          obtain ⟨h1, h2, h3, h4⟩ := HE.out
          exact ⟨rfl, none, 0, 0, some ⟨z, 0, none⟩, 1, 1, _, hid h1, hid h2, hid (may3 K n HKK.out (by omega)), hid h3, h4⟩
  case rest =>
    clear HB3 HCQ HCZ HZ3
    obtain ⟨rfl, vo, vn, vc, fo, fn, fc, S, HC, HR, HMS, HBL, hq⟩ := hcut
    replace HBL : Hid (Below w.heap.size w wc) := hid (HB2.out.trans (HBL.out.mono (by rw [← HZ.out]; exact HB2.out.size)))
    have a0 := HC.out.cell 0 _ rfl
    have a1 := HC.out.cell 1 _ rfl
    have a2 := HC.out.cell 2 _ rfl
    go_wp2_with fail
    refine (X.enc_to ⟨vo, vn, vc, fo, fn, fc⟩ S wc HR.out).mono ?_
    rintro e w4 ⟨v, rfl, hown, hb⟩
    have hlen := X.len S HR.out.wf
    obtain ⟨eo, ec, rfl, hrd⟩ := hown.rd
    obtain ⟨es, hes⟩ : ∃ es, X.enc S = es := ⟨_, rfl⟩
    obtain ⟨el, hel⟩ : ∃ el, es.length = el := ⟨_, rfl⟩
    rw [hes] at hrd hlen ⊢
    rw [hel] at hrd hlen ⊢
    have HRD := hid hrd
    have HES := hid hes
    have HEL := hid hel
    have hq4 : z + 1 < w4.heap.size := Nat.lt_of_lt_of_le hq hb.size
    replace HC := hid (HC.out.below (Nat.succ_pos _) hb)
    replace HR := hid (HR.out.below hb)
    replace HBL := hid (Bl.step HBL.out hb)
    clear a0 a1 a2 hown hrd hes hel hb hq
    by_cases hp : 0 < n
    · have hmf : mayS S = false := by rw [HMS.out]; simp; omega
      have he0 : el = 0 := by rw [← HEL.out, ← HES.out, X.bad S hmf]; rfl
      subst he0
      have a0 := HC.out.cell 0 _ rfl
      have a1 := HC.out.cell 1 _ rfl
      have a2 := HC.out.cell 2 _ rfl
      go_wp2_with fail
      refine (X.may_to ⟨vo, vn, vc, fo, fn, fc⟩ S w4 HR.out).mono ?_
      rw [hmf]
      rintro e w5 ⟨rfl, hb⟩
      have HB5 := hid (Bl.step HBL.out hb)
      clear a0 a1 a2 hb
      go_wp2_with fail
      go_ret
      exact ⟨rfl, HB5.out⟩
    · have hmt : mayS S = true := by rw [HMS.out]; simp; omega
      go_wp2_with fail
      refine (X.dec_to eo el ec es w4 HRD.out (by omega)).mono ?_
      rintro e w5 ⟨⟨xo, xn, xc, yo, yn, yc⟩, Sx, c, rfl, hd, hsx, hb⟩
      obtain ⟨rfl, rfl⟩ : S = Sx ∧ c = 0 := by
        have h1 := (X.good S HR.out.wf hmt).2
        rw [HES.out] at h1
        rcases hd with ⟨h2, h3⟩ | ⟨h2, _⟩
        · rw [h1] at h2; exact ⟨Option.some.inj h2, h3⟩
        · rw [h1] at h2; cases h2
      simp only [SV.cells]
      obtain ⟨q, hqq⟩ : ∃ q, w5.heap.size = q := ⟨_, rfl⟩
      obtain ⟨w6, hw6⟩ : ∃ w6, w5.alloc (.cells #[.slice xo xn xc, .slice yo yn yc, .int .i64 S.asks] 25) = w6 := ⟨_, rfl⟩
      have hcx : Cel w6 q [.slice xo xn xc, .slice yo yn yc, .int .i64 S.asks] := by rw [← hw6, ← hqq]; exact Cel.new _ _ _
      have ha : Below w5.heap.size w5 w6 := by rw [← hw6]; exact Bl.alloc (Bl.refl _) _
      have h46 := Bl.step hb ha
      have hz6 : z + 1 < w6.heap.size := Nat.lt_of_lt_of_le hq4 h46.size
      replace HBL := hid (Bl.step HBL.out h46)
      have HSX := hid (hsx.below ha)
      have HCX := hid hcx
      replace HR := hid (HR.out.below h46)
      replace HC := hid (HC.out.below (Nat.succ_pos _) h46)
      have HW6 := hid hw6
      have HQ := hid hqq
      clear hd hsx hb hw6 hqq hcx ha h46 HRD hq4
      go_upto_region 27 with fail
      rw [HW6.out, HQ.out]
      have hq6 : q < w6.heap.size := HCX.out.lt (Nat.succ_pos _)
      have a0 := HC.out.cell 0 _ rfl
      have a1 := HC.out.cell 1 _ rfl
      have a2 := HC.out.cell 2 _ rfl
      go_wp2_with fail
      refine (X.may_to ⟨vo, vn, vc, fo, fn, fc⟩ S w6 HR.out).mono ?_
      rw [hmt]
      rintro e w7 ⟨rfl, hb⟩
      clear a0 a1 a2
      have a0 := (hb.cell (p := ⟨z + 1, 0, none⟩) hz6).trans (HC.out.cell 0 _ rfl)
      have a1 := (hb.cell (p := ⟨z + 1, 1, none⟩) hz6).trans (HC.out.cell 1 _ rfl)
      have a2 := (hb.cell (p := ⟨z + 1, 2, none⟩) hz6).trans (HC.out.cell 2 _ rfl)
      have b0 := (hb.cell (p := ⟨q, 0, none⟩) hq6).trans (HCX.out.cell 0 _ rfl)
      have b1 := (hb.cell (p := ⟨q, 1, none⟩) hq6).trans (HCX.out.cell 1 _ rfl)
      have b2 := (hb.cell (p := ⟨q, 2, none⟩) hq6).trans (HCX.out.cell 2 _ rfl)
      have HB7 := hid hb
      clear hb
      go_wp2_with fail
      refine (eq_to ⟨xo, xn, xc, yo, yn, yc⟩ ⟨vo, vn, vc, fo, fn, fc⟩ S S true (by simp) w7 (HSX.out.below HB7.out) (HR.out.below HB7.out)).mono ?_
      rintro e w8 ⟨rfl, hb⟩
      have HB8 := hid (Bl.step (Bl.step HBL.out HB7.out) hb)
      clear hb a0 a1 a2 b0 b1 b2
      go_wp2_with fail
      go_ret
      exact ⟨rfl, HB8.out⟩
end Go.Proofs.Ytnbegmlbkjjggaa
