/- extent's laws: ExtentBack; over ExtSpec. -/
import Derived.Test.YtjihemgidogoeaaExL
import Derived.Test.YtjihemgidogoeaaExN
import Derived.Test.YtjihemgidogoeaaCodeRows
import Derived.Deep.AppendLies
import Derived.ArgAppend
import Derived.Deep.Upon
import Derived.Deep.AppendSrc
import Derived.Lib.AppendZeros
import Derived.StillTailTactics
namespace Go.Proofs.Ytjihemgidogoeaa
open Go.RowKit
set_option linter.unusedVariables false

theorem stopHere {p : Prop} (h : Hid p) : p := h.out
def rowS (s : Int × Int) : List Value := [.int .i64 s.1, .int .i64 s.2]
theorem infoSp : (Try.prog.info? 30).map (fun i => (i.zero, i.size, i.bytes)) = some (some (.agg #[.int .i64 0, .int .i64 0]), 2, 16) := by kernel_rfl
theorem rows_wid (l : List (Int × Int)) : ∀ r ∈ l.map rowS, r.length = 2 := fun r hr => by
  obtain ⟨s, _, rfl⟩ := List.mem_map.1 hr
  rfl
theorem OwnC.stay {E : TypeId} {s B : Nat} {w w' : World} {v : Value} {rs : List (List Value)} (h : OwnC E s B w v rs) (hs : w.heap.size ≤ w'.heap.size) (hb : ∀ b, v.ownBlock = some b → w'.heap[b]? = w.heap[b]?) : OwnC E s B w' v rs := by
  refine ⟨⟨h.row.1, ?_⟩, h.wid⟩
  rcases h.row.2 with h2 | ⟨g, cap, cur, hv, hg, hh, r⟩
  · exact .inl h2
  · refine .inr ⟨g, cap, cur, hv, hg, ?_, r⟩
    rw [hb g (by rw [hv]; rfl)]
    exact hh
def lenV : Value → Nat
  | .slice _ n _ => n
  | _ => 0
theorem rowS_get (r : List (Int × Int)) (i : Nat) (x y : Int) (h : r[i]? = some (x, y)) : (r.map rowS).getD i [] = [.int .i64 x, .int .i64 y] := by
  rw [List.getD_eq_getElem?_getD, List.getElem?_map, h]
  rfl
/-- What is owned is read. -/
theorem OwnC.rdq {B : Nat} {w : World} {vo : Option Addr} {n c : Nat} {r : List (Int × Int)} (h : OwnC 30 2 B w (.slice vo n c) (r.map rowS)) (hn : r.length = n) : RdQ w vo n c r := by
  have hsh := h.row.2
  rw [List.length_map, hn] at hsh
  refine ⟨hn, ?_, ?_, ?_, fun i x y hi => ?_⟩
  · rcases hsh with ⟨e, _⟩ | ⟨g, cap, cur, e, _, _, hle, _⟩
    · injection e with e1 e2 e3; omega
    · injection e with e1 e2 e3; omega
  · rcases hsh with ⟨e, _⟩ | ⟨g, cap, cur, e, _, _, _, hm, _⟩
    · injection e with e1 e2 e3; rw [e3]; exact Nat.zero_le _
    · injection e with e1 e2 e3; rw [e3]; exact hm
  · intro e0
    rcases hsh with ⟨e, _⟩ | ⟨g, cap, cur, e, _⟩
    · injection e
    · injection e with e1 e2 e3; rw [e0] at e1; cases e1
  · have hl : i < r.length := (List.getElem?_eq_some_iff.1 hi).1
    rcases hsh with ⟨e, e'⟩ | ⟨g, cap, cur, e, _⟩
    · omega
    · injection e with e1 e2 e3
      subst e1
      have h0 := (h.cell i 0 (u := .int .i64 x) (by rw [List.length_map]; exact hl) (by rw [rowS_get r i x y hi]; rfl)).1
      have h1 := (h.cell i 1 (u := .int .i64 y) (by rw [List.length_map]; exact hl) (by rw [rowS_get r i x y hi]; rfl)).1
      exact ⟨g, 0, rfl, by simpa using h0, by simpa using h1⟩
/-- The first k, and no room behind them. -/
theorem RdQ.front {w : World} {vo : Option Addr} {n c : Nat} {r : List (Int × Int)} (h : RdQ w vo n c r) {k : Nat} (hk : k ≤ n) (hv : ∃ ad, vo = some ad) : RdQ w vo k k (r.take k) := by
  have h1 := h.len
  have h2 := h.le
  have h3 := h.max
  refine ⟨by rw [List.length_take]; omega, Nat.le_refl _, by omega, fun e => ?_, fun i x y hi => ?_⟩
  · obtain ⟨ad, e'⟩ := hv
    rw [e'] at e
    cases e
  · rw [List.getElem?_take] at hi
    split at hi
    · exact h.cell i x y hi
    · cases hi
/-- The cells of the rows from i on, m of them. -/
theorem RdQ.flat {w : World} {b off n c : Nat} {r : List (Int × Int)} (h : RdQ w (some ⟨b, off, none⟩) n c r) (i m : Nat) (him : i + m ≤ n) : ∀ j u, (((r.drop i).take m).map rowS).flatten[j]? = some u → w.cell? ((⟨b, off + i * 2, none⟩ : Addr).add j) = some u := by
  intro j u hu
  have hw : ∀ x ∈ ((r.drop i).take m).map rowS, x.length = 2 := rows_wid _
  have hl : (((r.drop i).take m).map rowS).length = m := by rw [List.length_map, List.length_take, List.length_drop, h.len]; omega
  have hfl := flat_len' 2 _ hw
  rw [hl] at hfl
  have hj : j < m * 2 := by have := (List.getElem?_eq_some_iff.1 hu).1; omega
  have hg := flat_get 2 _ (j / 2) (j % 2) hw (by rw [hl]; omega) (by omega)
  rw [show j / 2 * 2 + j % 2 = j by omega, hu] at hg
  have hlt : i + j / 2 < r.length := by rw [h.len]; omega
  obtain ⟨x, y, hxy⟩ : ∃ x y, r[i + j / 2]? = some (x, y) := ⟨r[i + j / 2].1, r[i + j / 2].2, List.getElem?_eq_getElem hlt⟩
  have hr : ((r.drop i).take m)[j / 2]? = some (x, y) := by rw [List.getElem?_take, if_pos (by omega), List.getElem?_drop, hxy]
  rw [rowS_get _ _ x y hr] at hg
  obtain ⟨_, _, e, c0, c1⟩ := h.cell _ x y hxy
  obtain ⟨rfl, rfl⟩ : b = _ ∧ off = _ := by injection e with e; injection e with e1 e2 e3; exact ⟨e1, e2⟩
  rw [Addr.add_lit]
  rcases (by omega : j % 2 = 0 ∨ j % 2 = 1) with h0 | h0
  · rw [h0] at hg
    simp at hg
    rw [hg, show off + i * 2 + j = off + (i + j / 2) * 2 by omega]
    exact c0
  · rw [h0] at hg
    simp at hg
    rw [hg, show off + i * 2 + j = off + (i + j / 2) * 2 + 1 by omega]
    exact c1
theorem flat_len (r : List (Int × Int)) (i m : Nat) (h : i + m ≤ r.length) : (((r.drop i).take m).map rowS).flatten.length = m * 2 := by
  rw [flat_len' 2 _ (rows_wid _), List.length_map, List.length_take, List.length_drop, Nat.min_eq_left (by omega)]
theorem flat_one (l : List (Int × Int)) : ∀ u ∈ (l.map rowS).flatten, u.oneCell' = true := fun u hu => by
  obtain ⟨s, hs, hu⟩ := List.mem_flatten.1 hu
  obtain ⟨x, _, rfl⟩ := List.mem_map.1 hs
  simp [rowS] at hu
  rcases hu with rfl | rfl <;> rfl
theorem RdQ.bel1 {w : World} {ao : Option Addr} {n c : Nat} {r : List (Int × Int)} (h : RdQ w ao n c r) : RdQ w.drew ao n c r := h.below (Below.refl _ _).drew
theorem elemSp : Try.prog.underlying 37 = some (.slice (Try.prog.elem 37)) := by kernel_rfl
theorem sizeSp (w : World) : (sizeOf (Try.prog.elem 37)).run Try.prog w = .ok 2 w := by kernel_rfl
theorem cut_front (b off n c k : Nat) (hk : k ≤ c) (w : World) : (Instr.sliceAt 37 (.slice (some ⟨b, off, none⟩) n c) none (some (.int .i64 (k : Int))) (some (.int .i64 (k : Int)))).run Try.prog w = .ok (.slice (some ⟨b, off, none⟩) k k) w := by
  rw [run_sliceAt_slice w _ _ _ _ _ elemSp, run_slice_hm w _ _ n c elemSp .i64 .i64 _ _ (by omega) (Int.le_refl _) (by omega), sizeSp]
  by_cases e : k = 0
  · simp [sliced, e]
  · simp [sliced, e, Addr.add]
set_option maxRecDepth 100000 in
set_option maxHeartbeats 4000000 in
theorem extentBack_walk (X : ExtSpec) (ao : Option Addr) (l cap : Nat) (xs : List Int) (bo : Option Addr) (l2 cap2 : Nat) (ys : List Int) (w : World) (hx : Rd .i64 w ao l cap xs) (hy : Rd .i64 w bo l2 cap2 ys) : Calls Try.prog 4 #[.slice ao l cap, .slice bo l2 cap2] w fun e w' => e = .returned (.bool true) ∧ Below w.heap.size w w' := by
  have HX := hid hx; have HY := hid hy
  have hnc := hx.cap63
  have hnl := hx.le
  have hnc2 := hy.cap63
  have hnl2 := hy.le
  clear hx hy
  obtain ⟨i0, hi0, hz0, hz1, hz2⟩ := info_parts infoSp
  go_enter Try.func4, Try.ntmps4
  go_wp2_with fail
  refine (begun_to X w).mono ?_
  rintro e w1 ⟨rfl, hb⟩
  have HB := hid hb
  clear hb
  go_wp2_with fail
  refine (ExtSpec.L.make X HB.out (by decide) (by decide) (by decide)).mono ?_
  rintro e w2 ⟨p, rfl, hL, -⟩
  have HL := hid (hL.sub (G' := fun b => (Value.slice none 0 0).ownBlock = some b) (fun b h => by simp [Value.ownBlock] at h))
  clear hL HB
  go_wp2_with fail
  go_loopw [7, 8] (fun v i wr => ∃ (k : Nat) (r : List (Int × Int)) (M : Rm), k ≤ l ∧ k ≤ 30 ∧ i = .int .i64 k ∧ r.length ≤ k ∧ OwnC 30 2 w.heap.size wr v (r.map rowS) ∧ BackM M r ∧ X.L w (fun b => v.ownBlock = some b) M p wr) (fun _ i _ => l - (intOf i).toNat)
  case atStart => exact ⟨0, [], _, Nat.zero_le _, by omega, rfl, Nat.le_refl _, OwnC.nil _ _ _ _, BackM.new, HL.out⟩
  case round =>
    clear HL
    obtain ⟨k, r, M, hk, hk30, rfl, hrk, hO, hM, hL⟩ := hrel
    obtain ⟨vo, vc, rfl, hvc, hv63, hvo⟩ := hO.shape
    rw [List.length_map] at hvc hvo
    have hlr : (r.map rowS).length = r.length := List.length_map ..
    obtain ⟨rn, hrn⟩ : ∃ rn, r.length = rn := ⟨_, rfl⟩
    rw [hlr, hrn] at hO hL ⊢
    rw [hrn] at hvc hvo hrk
    have HL := hid hL; have HO := hid hO; have HM := hid hM; have HRN := hid hrn; have HVO := hid hvo
    clear hL hO hM hlr hrn hvo
    by_cases hlt : k < l ∧ k < 30
    · obtain ⟨hlt, h30⟩ := hlt
      obtain ⟨bx, ox, rfl, hcx⟩ := HX.out.at (by omega)
      have hc := (HL.out.b.cell (World.block_lt_of_cell? _ _ (hcx k hlt))).trans (hcx k hlt)
      obtain ⟨x, hx⟩ : ∃ x, xs.getD k 0 = x := ⟨_, rfl⟩
      rw [hx] at hc
      clear hx hcx
      obtain ⟨i4, hi4, hi5⟩ := rem20 x
      obtain ⟨t, ht⟩ : ∃ t, x.tmod 20 = t ∧ -20 < t ∧ t < 20 := ⟨_, rfl, Int.lt_tmod_of_pos _ (by decide), Int.tmod_lt_of_pos _ (by decide)⟩
      obtain ⟨ht, ht1, ht2⟩ := ht
      rw [ht] at hi5
      obtain ⟨kk, hkk⟩ : ∃ kk : Nat, 1 + (i4 : Int) = kk ∧ kk ≤ 20 := ⟨i4 + 1, by omega, by omega⟩
      obtain ⟨hkk, hk20⟩ := hkk
      cases hta : M.takeAt kk with
      | none =>
        obtain ⟨e1, e2⟩ := take_none hta
        go_wp2_with fail
        refine (HL.out.take (WalkArith.wf_i64 ⟨by omega, by omega⟩)).mono ?_
        rintro e w3 ⟨rfl, hL, hk', hsz⟩
        rw [e1]
        rw [e2] at hL
        have HO3 : Hid (OwnC 30 2 w.heap.size w3 (.slice vo rn vc) (r.map rowS)) := hid (HO.out.stay hsz (fun b hb => hk' b hb))
        replace HL := hid hL
        clear hL hk' hsz hc hi5 ht ht1 ht2 e1 e2 hta
        go_wp2_with fail
        replace HL := hid (HL.out.bel (Bl.alloc (Bl.refl _) (.cells #[.int .i64 0, .int .i64 0] 30)))
        replace HO := hid (HO3.out.alloc (.cells #[.int .i64 0, .int .i64 0] 30))
        go_roundw
        case rel => exact ⟨k + 1, r, M, by omega, by omega, by go_num, by have := HRN.out; omega, HO.out, HM.out, HL.out⟩
        case measure => simp [intOf]; omega
      | some a =>
        obtain ⟨e1, e2⟩ := HM.out.take hta
        obtain ⟨a5, ha5⟩ : ∃ a5 : Int, (5 : Int) + a = a5 := ⟨_, rfl⟩
        rw [ha5] at e1 e2
        have HM2 := hid e2
        clear e2 hta
        go_wp2_with fail
        refine (HL.out.take (WalkArith.wf_i64 ⟨by omega, by omega⟩)).mono ?_
        rintro e w3 ⟨rfl, hL, hk', hsz⟩
        rw [e1]
        have HO3 : Hid (OwnC 30 2 w.heap.size w3 (.slice vo rn vc) (r.map rowS)) := hid (HO.out.stay hsz (fun b hb => hk' b hb))
        replace HL := hid hL
        clear hL hk' hsz hc hi5 ht ht1 ht2 e1 HM ha5
        go_wp2_with (at_builtin; apply stopHere)
        refine hid ?_
        obtain ⟨w5, hw5⟩ : ∃ w5, ((w3.alloc (.cells #[.int .i64 a5, .int .i64 (kk : Int)] 30)).alloc (.cells #[.int .i64 a5, .int .i64 (kk : Int)] 30)) = w5 := ⟨_, rfl⟩
        have hb5 : Below w3.heap.size w3 w5 := by rw [← hw5]; exact Bl.alloc (Bl.alloc (Bl.refl _) _) _
        have hblk : w5.heap[w3.heap.size + 1]? = some (.cells #[.int .i64 a5, .int .i64 (kk : Int)] 30) := by
          rw [← hw5]
          have := heap_alloc_new (w3.alloc (.cells #[.int .i64 a5, .int .i64 (kk : Int)] 30)) (.cells #[.int .i64 a5, .int .i64 (kk : Int)] 30)
          simpa using this
        have HO5 := hid (HO3.out.below hb5 (Nat.le_refl _))
        replace HL := hid (HL.out.bel hb5)
        have hz3 := HL.out.z
        rw [hw5]
        clear hw5 hb5 HO HO3
        refine wpList_append_lies _ rfl (.tmp 42) (.tmp 44) 37 rfl w.heap.size 30 i0 _ 2 16 Try.underlying37 hi0 hz0 hz1 hz2 rfl (by decide) (.slice vo rn vc) rn _ rfl (HO5.out.rowN (by rw [List.length_map]; exact HRN.out)) ⟨w3.heap.size + 1, 0, none⟩ 1 1 [.int .i64 a5, .int .i64 (kk : Int)] rfl rfl (World.news_of_block hblk) (by simp [Value.oneCell']) (by decide) (by unfold maxLen; omega) (by omega) hz3 w5.heap.size rfl ?_
        intro g gc w6 hown hgr hat hgl
        have HO6 : Hid (OwnC 30 2 w.heap.size w6 (.slice (some ⟨g, 0, none⟩) (rn + 1) gc) ((r ++ [(a5, (kk : Int))]).map rowS)) := hid (by
          have := OwnC.snoc (rowS (a5, (kk : Int))) rfl (rows_wid r) (by rw [List.length_map, HRN.out]) hown
          rwa [List.map_append])
        have HL6 : Hid (X.L w (fun b => (Value.slice (some ⟨g, 0, none⟩) (rn + 1) gc).ownBlock = some b) (M.take kk) p w6) := hid (HL.out.grown hgr (fun q hq => ⟨hq, (HO5.out.lt q hq).1⟩) (fun q hq => by
          have hgq : g = q := by simpa [Value.ownBlock] using hq
          subst hgq
          rcases hat with h | h
          · exact .inl h
          · exact .inr ⟨by rw [h]; exact Nat.le_refl _, hgl⟩))
        clear hown hgr hat hgl HO5 HL hblk hz3
        go_wp2_with fail
        go_roundw
        case rel => exact ⟨k + 1, r ++ [(a5, (kk : Int))], _, by omega, by omega, by go_num, by rw [List.length_append, HRN.out]; simp; omega, HO6.out, HM2.out, HL6.out⟩
        case measure => simp [intOf]; omega
    · have hex : ¬ k < l ∨ k < l ∧ ¬ (k : Int) < 30 := by omega
      have hrk30 : rn ≤ 30 := by omega
      clear hlt
      rcases hex with h | ⟨h, h'⟩
      all_goals
        go_wp2_with fail
        have HR := hid (HO.out.rdq HRN.out)
        have hl2 : ∀ ad, vo = some ad → w.heap.size ≤ ad.block := fun ad e => (HO.out.lt ad.block (by rw [e]; rfl)).1
        replace HL := hid (HL.out.sub (G' := fun b => ∃ ad, vo = some ad ∧ ad.block = b) (fun b ⟨ad, e, hb⟩ => by rw [e, ← hb]; rfl))
        clear hl2 HO HVO
        obtain ⟨wo, rfl⟩ : ∃ wo : World, wo = wr := ⟨_, rfl⟩
        go_loopw [7, 11] (fun v i wr => ∃ (j : Nat) (vo : Option Addr) (n c : Nat) (r : List (Int × Int)) (M : Rm), j + n ≤ 30 ∧ i = .int .i64 j ∧ v = .slice vo n c ∧ RdQ wr vo n c r ∧ BackM M r ∧ X.L w (fun b => ∃ ad, vo = some ad ∧ ad.block = b) M p wr) (fun v _ _ => lenV v)
        case atStart => exact ⟨0, vo, rn, vc, r, M, by omega, rfl, rfl, HR.out, HM.out, HL.out⟩
        case round =>
          clear HR HM HL HRN hrk30 hvc hv63 hrk
          obtain ⟨j, vo, n, c, r, M, hjn, rfl, rfl, hR, hM, hL⟩ := hrel
          have hnc3 := hR.cap63
          have hnl3 := hR.le
          have HR := hid hR; have HM := hid hM; have HL := hid hL
          clear hR hM hL
          by_cases hn0 : 0 < n
          · by_cases hj : j < l2
            · obtain ⟨yb, yo, rfl, hcy⟩ := HY.out.at (by omega)
              have hc := (HL.out.b.cell (World.block_lt_of_cell? _ _ (hcy j hj))).trans (hcy j hj)
              obtain ⟨y, hy⟩ : ∃ y, ys.getD j 0 = y := ⟨_, rfl⟩
              rw [hy] at hc
              clear hy hcy
              obtain ⟨t, ht, ht1, ht2, k2, hk2, hk2n⟩ := remN y n hn0
              have hnz : ((n : Int) == 0) = false := by simp; omega
              obtain ⟨a, m, hs⟩ : ∃ a m, r[k2]? = some (a, m) := ⟨(r[k2]'(by rw [HR.out.len]; omega)).1, (r[k2]'(by rw [HR.out.len]; omega)).2, List.getElem?_eq_getElem _⟩
              obtain ⟨b, off, rfl, c0, c1⟩ := HR.out.cell k2 a m hs
              obtain ⟨g1, g2, g3, g4⟩ := HM.out.give (by rw [HR.out.len]; omega) hs
              have hfit := HM.out.fit (a, m) (List.mem_of_getElem? hs)
              simp only at hfit
              have HWA : Hid ((Lit.int .i64 a).wf = true) := hid (WalkArith.wf_i64 ⟨by omega, by omega⟩)
              have HWM : Hid ((Lit.int .i64 m).wf = true) := hid (WalkArith.wf_i64 ⟨by omega, by omega⟩)
              have HM2 := hid g2
              have HG3 := hid (And.intro g1 (And.intro g3 g4))
              try simp only [Nat.zero_mul, Nat.add_zero] at c0 c1
              clear hfit hs g1 g2 g3 g4 HM
              go_wp2_with fail
              refine (HL.out.give HWA.out HWM.out).mono ?_
              rintro e w3 ⟨rfl, hL, hk', hsz⟩
              rw [HG3.out.1]
              have hbk : w3.heap[b]? = wr.heap[b]? := hk' b ⟨_, rfl, rfl⟩
              have d0 := (World.cell?_of_block (a := ⟨b, _, none⟩) hbk).trans c0
              have d1 := (World.cell?_of_block (a := ⟨b, _, none⟩) hbk).trans c1
              have HR3 := hid (HR.out.stay (w' := w3) (fun ad e => by cases e; exact hbk))
              replace HL := hid hL
              clear hL hk' hsz hbk c0 c1 HR
              go_wp2_with fail
              refine (HL.out.give HWA.out HWM.out).mono ?_
              rintro e w4 ⟨rfl, hL, hk', hsz⟩
              rw [HG3.out.2.1]
              rw [HG3.out.2.2] at hL
              have hbk : w4.heap[b]? = w3.heap[b]? := hk' b ⟨_, rfl, rfl⟩
              have HR4 := hid (HR3.out.stay (w' := w4) (fun ad e => by cases e; exact hbk))
              replace HL := hid hL
              clear hL hk' hsz hbk d0 d1 HR3 HG3 HWA HWM
              go_wp2_with fail
              obtain ⟨kp, hkp⟩ : ∃ kp : Nat, (k2 : Int) + 1 = kp ∧ k2 + 1 = kp := ⟨k2 + 1, by omega, rfl⟩
              obtain ⟨hkp, hkp2⟩ := hkp
              have hwr : IntKind.i64.wrap (kp : Int) = (kp : Int) := IntWalk.i64_in _ (by omega)
              rw [hkp2] at HM2
              have HKP := hid hkp2
              clear hkp2
              have hle2 : (kp : Int) ≤ n := by omega
              have hk2c : k2 ≤ c := by omega
              have hk2le : k2 ≤ n := by omega
              have hcase : (kp < n ∧ c ≠ kp) ∨ (kp = n ∧ kp = c) ∨ (kp = n ∧ c ≠ kp) := by omega
              rcases hcase with ⟨h1, h2⟩ | ⟨h1, h2⟩ | ⟨h1, h2⟩
              · go_still_tail 8, (by kernel_rfl)
                change wpList _ _ _ _ _ w4.drew
                have HRD := hid (HR4.out.bel1)
                refine wpList_append_grows w4.drew rfl (.tmp 86) (.tmp 90) 37 rfl 30 i0 _ 2 16 Try.underlying37 hi0 hz0 hz1 hz2 rfl (by decide) (some ⟨b, off, none⟩) k2 k2 (((r.drop 0).take k2).map rowS).flatten rfl (fun h => by cases h) (flat_len r 0 k2 (by rw [HRD.out.len]; omega)) (fun ad e j u hu => by cases e; have := HRD.out.flat 0 k2 (by omega) j u hu; simpa using this) ⟨b, off + kp * 2, none⟩ (n - kp) (c - kp) (((r.drop kp).take (n - kp)).map rowS).flatten rfl (flat_len r kp (n - kp) (by rw [HRD.out.len]; omega)) (HRD.out.flat kp (n - kp) (by omega)) (flat_one _) (by omega) (by unfold maxLen; omega) (by omega) ?_
                intro v' w5 hown hgr
                have HO5 : Hid (OwnC 30 2 w4.drew.heap.size w5 v' ((r.take k2 ++ r.drop kp).map rowS)) := hid (by
                  refine ⟨?_, rows_wid _⟩
                  have e1 : ((r.take k2 ++ r.drop kp).map rowS).length = k2 + (n - kp) := by rw [List.length_map, List.length_append, List.length_take, List.length_drop, HRD.out.len]; omega
                  have e2 : (r.drop kp).take (n - kp) = r.drop kp := List.take_of_length_le (by rw [List.length_drop, HRD.out.len]; omega)
                  rw [e1, List.map_append, List.flatten_append]
                  rw [e2, List.drop_zero] at hown
                  exact hown)
                have hln : (r.take k2 ++ r.drop kp).length = n - 1 := by rw [List.length_append, List.length_take, List.length_drop, HRD.out.len]; omega
                obtain ⟨vo5, vc5, rfl, -, -, -⟩ := HO5.out.shape
                rw [List.length_map, hln] at HO5 ⊢
                have HR5 := hid (HO5.out.rdq hln)
                have HL5 : Hid (X.L w (fun b => ∃ ad, vo5 = some ad ∧ ad.block = b) (M.use a m false) p w5) := hid (HL.out.drew.grown hgr (fun g e => by cases e) (fun q ⟨ad, e, hq⟩ => .inr (by have := HO5.out.lt q (by rw [e, ← hq]; rfl); exact this)))
                clear hown hgr HO5 HRD HR4 HL hln
                go_wp2_with fail
                go_roundw
                case rel => exact ⟨j + 1, vo5, n - 1, vc5, _, _, by omega, by go_num, rfl, HR5.out, HM2.out, HL5.out⟩
                case measure => show n - 1 < n; omega
              · subst h1
                subst h2
                go_still_tail 8, (by kernel_rfl)
                change wpList _ _ _ _ _ w4.drew
                have hrun := fun ty => run_append_nothing (P := Try.prog) w4.drew 37 37 ty 30 i0 Try.underlying37 hi0 (some ⟨b, off, none⟩) k2 k2 (Nat.le_refl _) (.slice (some ⟨b, off, none⟩) 0 0) (Src.ofSlice w4.drew Try.underlying37 _ 0 0 [] (by simp) (fun _ _ h => by simp at h) (fun _ h => by cases h))
                refine Lib.wpList_append_run _ rfl (.tmp 86) (.tmp 90) _ _ rfl _ _ rfl (by simp [Act.eval]) _ _ (hrun _) ?_
                have hfr := HR4.out.front (k := k2) (by omega) ⟨_, rfl⟩
                have hde : r.take k2 ++ r.drop kp = r.take k2 := by rw [List.drop_eq_nil_of_le (by rw [HR4.out.len]; omega), List.append_nil]
                rw [hde] at HM2
                have HR5 := hid (hfr.bel1)
                have HL5 := hid HL.out.drew
                clear hfr hde HR4 HL hrun
                go_wp2_with fail
                go_roundw
                case rel => exact ⟨j + 1, _, k2, k2, _, _, by omega, by go_num, rfl, HR5.out, HM2.out, HL5.out⟩
                case measure => have := HKP.out; show k2 < kp; omega
              · subst h1
                go_still_tail 8, (by kernel_rfl)
                change wpList _ _ _ _ _ w4.drew
                have hrun := fun ty => run_append_nothing (P := Try.prog) w4.drew 37 37 ty 30 i0 Try.underlying37 hi0 (some ⟨b, off, none⟩) k2 k2 (Nat.le_refl _) (.slice (some ⟨b, off + kp * 2, none⟩) 0 (c - kp)) (Src.ofSlice w4.drew Try.underlying37 _ 0 _ [] (by simp) (fun _ _ h => by simp at h) (fun _ h => by cases h))
                refine Lib.wpList_append_run _ rfl (.tmp 86) (.tmp 90) _ _ rfl _ _ rfl (by simp [Act.eval]) _ _ (hrun _) ?_
                have hfr := HR4.out.front (k := k2) (by omega) ⟨_, rfl⟩
                have hde : r.take k2 ++ r.drop kp = r.take k2 := by rw [List.drop_eq_nil_of_le (by rw [HR4.out.len]; omega), List.append_nil]
                rw [hde] at HM2
                have HR5 := hid (hfr.bel1)
                have HL5 := hid HL.out.drew
                clear hfr hde HR4 HL hrun
                go_wp2_with fail
                go_roundw
                case rel => exact ⟨j + 1, _, k2, k2, _, _, by omega, by go_num, rfl, HR5.out, HM2.out, HL5.out⟩
                case measure => have := HKP.out; show k2 < kp; omega
            · 
              obtain ⟨a, m, hs⟩ : ∃ a m, r[0]? = some (a, m) := ⟨(r[0]'(by rw [HR.out.len]; omega)).1, (r[0]'(by rw [HR.out.len]; omega)).2, List.getElem?_eq_getElem _⟩
              obtain ⟨b, off, rfl, c0, c1⟩ := HR.out.cell 0 a m hs
              obtain ⟨g1, g2, g3, g4⟩ := HM.out.give (by rw [HR.out.len]; omega) hs
              have hfit := HM.out.fit (a, m) (List.mem_of_getElem? hs)
              simp only at hfit
              have HWA : Hid ((Lit.int .i64 a).wf = true) := hid (WalkArith.wf_i64 ⟨by omega, by omega⟩)
              have HWM : Hid ((Lit.int .i64 m).wf = true) := hid (WalkArith.wf_i64 ⟨by omega, by omega⟩)
              have HM2 := hid g2
              have HG3 := hid (And.intro g1 (And.intro g3 g4))
              try simp only [Nat.zero_mul, Nat.add_zero] at c0 c1
              clear hfit hs g1 g2 g3 g4 HM
              go_wp2_with fail
              refine (HL.out.give HWA.out HWM.out).mono ?_
              rintro e w3 ⟨rfl, hL, hk', hsz⟩
              rw [HG3.out.1]
              have hbk : w3.heap[b]? = wr.heap[b]? := hk' b ⟨_, rfl, rfl⟩
              have d0 := (World.cell?_of_block (a := ⟨b, _, none⟩) hbk).trans c0
              have d1 := (World.cell?_of_block (a := ⟨b, _, none⟩) hbk).trans c1
              have HR3 := hid (HR.out.stay (w' := w3) (fun ad e => by cases e; exact hbk))
              replace HL := hid hL
              clear hL hk' hsz hbk c0 c1 HR
              go_wp2_with fail
              refine (HL.out.give HWA.out HWM.out).mono ?_
              rintro e w4 ⟨rfl, hL, hk', hsz⟩
              rw [HG3.out.2.1]
              rw [HG3.out.2.2] at hL
              have hbk : w4.heap[b]? = w3.heap[b]? := hk' b ⟨_, rfl, rfl⟩
              have HR4 := hid (HR3.out.stay (w' := w4) (fun ad e => by cases e; exact hbk))
              replace HL := hid hL
              clear hL hk' hsz hbk d0 d1 HR3 HG3 HWA HWM
              go_wp2_with fail
              have hle2 : (1 : Int) ≤ n := by omega
              have hwr : IntKind.i64.wrap 1 = 1 := by decide
              have hcase : (1 < n ∧ c ≠ 1) ∨ (n = 1 ∧ c = 1) ∨ (n = 1 ∧ c ≠ 1) := by omega
              rcases hcase with ⟨h1, h2⟩ | ⟨h1, h2⟩ | ⟨h1, h2⟩
              · go_still_tail 8, (by kernel_rfl)
                change wpList _ _ _ _ _ w4.drew
                have HRD := hid (HR4.out.bel1)
                refine wpList_append_grows w4.drew rfl (.tmp 86) (.tmp 90) 37 rfl 30 i0 _ 2 16 Try.underlying37 hi0 hz0 hz1 hz2 rfl (by decide) (some ⟨b, off, none⟩) 0 0 (((r.drop 0).take 0).map rowS).flatten rfl (fun h => by cases h) (flat_len r 0 0 (by rw [HRD.out.len]; omega)) (fun ad e j u hu => by cases e; have := HRD.out.flat 0 0 (by omega) j u hu; simpa using this) ⟨b, off + 1 * 2, none⟩ (n - 1) (c - 1) (((r.drop 1).take (n - 1)).map rowS).flatten rfl (flat_len r 1 (n - 1) (by rw [HRD.out.len]; omega)) (HRD.out.flat 1 (n - 1) (by omega)) (flat_one _) (by omega) (by unfold maxLen; omega) (by omega) ?_
                intro v' w5 hown hgr
                have HO5 : Hid (OwnC 30 2 w4.drew.heap.size w5 v' ((r.take 0 ++ r.drop 1).map rowS)) := hid (by
                  refine ⟨?_, rows_wid _⟩
                  have e1 : ((r.take 0 ++ r.drop 1).map rowS).length = 0 + (n - 1) := by rw [List.length_map, List.length_append, List.length_take, List.length_drop, HRD.out.len]; omega
                  have e2 : (r.drop 1).take (n - 1) = r.drop 1 := List.take_of_length_le (by rw [List.length_drop, HRD.out.len]; omega)
                  rw [e1, List.map_append, List.flatten_append]
                  rw [e2, List.drop_zero] at hown
                  exact hown)
                have hln : (r.take 0 ++ r.drop 1).length = n - 1 := by rw [List.length_append, List.length_take, List.length_drop, HRD.out.len]; omega
                obtain ⟨vo5, vc5, rfl, -, -, -⟩ := HO5.out.shape
                rw [List.length_map, hln] at HO5 ⊢
                have HR5 := hid (HO5.out.rdq hln)
                have HL5 : Hid (X.L w (fun b => ∃ ad, vo5 = some ad ∧ ad.block = b) (M.use a m false) p w5) := hid (HL.out.drew.grown hgr (fun g e => by cases e) (fun q ⟨ad, e, hq⟩ => .inr (by have := HO5.out.lt q (by rw [e, ← hq]; rfl); exact this)))
                clear hown hgr HO5 HRD HR4 HL hln
                go_wp2_with fail
                go_roundw
                case rel => exact ⟨j + 1, vo5, n - 1, vc5, _, _, by omega, by go_num, rfl, HR5.out, HM2.out, HL5.out⟩
                case measure => show n - 1 < n; omega
              · subst h1
                subst h2
                go_still_tail 8, (by kernel_rfl)
                change wpList _ _ _ _ _ w4.drew
                have hrun := fun ty => run_append_nothing (P := Try.prog) w4.drew 37 37 ty 30 i0 Try.underlying37 hi0 (some ⟨b, off, none⟩) 0 0 (Nat.le_refl _) (.slice (some ⟨b, off, none⟩) 0 0) (Src.ofSlice w4.drew Try.underlying37 _ 0 0 [] (by simp) (fun _ _ h => by simp at h) (fun _ h => by cases h))
                refine Lib.wpList_append_run _ rfl (.tmp 86) (.tmp 90) _ _ rfl _ _ rfl (by simp [Act.eval]) _ _ (hrun _) ?_
                have hfr := HR4.out.front (k := 0) (by omega) ⟨_, rfl⟩
                have hde : r.take 0 ++ r.drop (0 + 1) = r.take 0 := by rw [List.drop_eq_nil_of_le (by rw [HR4.out.len]; omega), List.append_nil]
                rw [hde] at HM2
                have HR5 := hid (hfr.bel1)
                have HL5 := hid HL.out.drew
                clear hfr hde HR4 HL hrun
                go_wp2_with fail
                go_roundw
                case rel => exact ⟨j + 1, _, 0, 0, _, _, by omega, by go_num, rfl, HR5.out, HM2.out, HL5.out⟩
                case measure => show 0 < 1; decide
              · subst h1
                go_still_tail 8, (by kernel_rfl)
                change wpList _ _ _ _ _ w4.drew
                have hrun := fun ty => run_append_nothing (P := Try.prog) w4.drew 37 37 ty 30 i0 Try.underlying37 hi0 (some ⟨b, off, none⟩) 0 0 (Nat.le_refl _) (.slice (some ⟨b, off + 1 * 2, none⟩) 0 (c - 1)) (Src.ofSlice w4.drew Try.underlying37 _ 0 _ [] (by simp) (fun _ _ h => by simp at h) (fun _ h => by cases h))
                refine Lib.wpList_append_run _ rfl (.tmp 86) (.tmp 90) _ _ rfl _ _ rfl (by simp [Act.eval]) _ _ (hrun _) ?_
                have hfr := HR4.out.front (k := 0) (by omega) ⟨_, rfl⟩
                have hde : r.take 0 ++ r.drop (0 + 1) = r.take 0 := by rw [List.drop_eq_nil_of_le (by rw [HR4.out.len]; omega), List.append_nil]
                rw [hde] at HM2
                have HR5 := hid (hfr.bel1)
                have HL5 := hid HL.out.drew
                clear hfr hde HR4 HL hrun
                go_wp2_with fail
                go_roundw
                case rel => exact ⟨j + 1, _, 0, 0, _, _, by omega, by go_num, rfl, HR5.out, HM2.out, HL5.out⟩
                case measure => show 0 < 1; decide
          · obtain rfl : n = 0 := by omega
            obtain rfl : r = [] := List.eq_nil_of_length_eq_zero HR.out.len
            obtain ⟨f1, f2⟩ := HM.out.done
            have HF := hid (And.intro f1 f2)
            clear f1 f2 HM HR hn0
            go_wp2_with fail
            refine HL.out.spans.mono ?_
            rintro e w3 ⟨ao3, n3, c3, rfl, hq, hL, -⟩
            rw [HF.out.2] at hq
            obtain rfl : n3 = 1 := hq.len.symm
            obtain ⟨b, off, rfl, c0, c1⟩ := hq.cell 0 5 200 rfl
            have hq1 := hq.cap63
            have hq2 := hq.le
            simp only [Nat.zero_mul, Nat.add_zero] at c0 c1
            replace HL := hid hL
            clear hq hL
            go_wp2_with fail
            refine HL.out.free.mono ?_
            rintro e w4 ⟨rfl, hL, hb⟩
            rw [HF.out.1]
            have d0 := (hb.cell (World.block_lt_of_cell? w3 _ c0)).trans c0
            have d1 := (hb.cell (World.block_lt_of_cell? w3 _ c1)).trans c1
            replace HL := hid hL
            clear hL hb c0 c1
            go_wp2_with fail
            go_ret
            exact ⟨rfl, HL.out.b⟩
end Go.Proofs.Ytjihemgidogoeaa
