/- Body of the laws: some instructions, their lists cut. -/
import Derived.Test.YtfambbpggodlkaaInsRows
namespace Go.Proofs.Ytfambbpggodlkaa
open Go.RowKit

theorem OwnP.below {B K : Nat} {w w' : World} {v : Value} {is : List Ins} (h : OwnP B w v is) (hb : Below K w w') (hK : w.heap.size ≤ K) : OwnP B w' v is := by
  obtain ⟨ps, e, hrow, hin⟩ := h
  refine ⟨ps, e, hrow.kept (row := none) ⟨hb.os, hb.tape, hb.output, hb.size, fun k hk _ => hb.block k (by omega)⟩ ?_, fun p hp => ?_⟩
  · cases hv : v.ownBlock <;> simp
  · obtain ⟨hr, hC⟩ := hin p hp
    exact ⟨hr.below (hb.mono hK), fun ad ha => ⟨Nat.lt_of_lt_of_le (hC ad ha).1 hb.size, (hC ad ha).2⟩⟩
theorem OwnP.lt {B : Nat} {w : World} {v : Value} {is : List Ins} (h : OwnP B w v is) : ∀ b, v.ownBlock = some b → B ≤ b ∧ b < w.heap.size := by
  obtain ⟨ps, _, hrow, _⟩ := h
  exact hrow.lt

def cutI (I : Ins) : Ins := ⟨I.op, I.a, I.b, I.l.take 55⟩
theorem take_ins {is : List Ins} {k : Nat} (h : k < is.length) : is.take (k + 1) = is.take k ++ [is.getD k default] := by
  rw [List.take_succ_eq_append_getElem h]
  simp [List.getD, h]

theorem stopHere {p : Prop} (h : Hid p) : p := h.out
theorem grow_below {K : Nat} {w w1 w1' w2 : World} {r : Option Nat} (h : Below K w w1) (h' : Below w1.heap.size w1 w1') (hg : w1'.grownBy w2 r) (hr : ∀ b, r = some b → K ≤ b) (hK : K ≤ w1.heap.size) : Below K w w2 := by
  refine h.trans ((h'.mono hK).trans ⟨hg.os, hg.tape, hg.output, hg.size, fun k hk => hg.block k (Nat.lt_of_lt_of_le hk (Nat.le_trans hK h'.size)) fun e => ?_⟩)
  have := hr k e.symm
  omega

set_option maxHeartbeats 2000000 in
theorem body_to (C : Addr → Prop) (ao : Option Addr) (n cap : Nat) (is : List Ins) (w : World) (hr : RdP w C ao n cap is) :
    Calls Try.prog 12 #[.slice ao n cap, .int .i64 30] w fun e w' => ∃ v, e = .returned v ∧ OwnP w.heap.size w' v ((is.take 30).map cutI) ∧ Below w.heap.size w w' := by
  have hn63 : n ≤ 9223372036854775807 := by have h1 := hr.le; have h2 := hr.max; unfold maxLen at h2; omega
  obtain ⟨i0, hi0, hz0, hz1, hz2⟩ := info_parts infoIns
  have HI := hid (And.intro hi0 (And.intro hz0 (And.intro hz1 hz2)))
  have Hr := hid hr
  have Hx := hid hr.len
  clear hr hi0 hz0 hz1 hz2
  go_enter Try.func12, Try.ntmps12
  go_wp2_with fail
  go_loopw [5, 6] (fun v i wr => ∃ k : Nat, k ≤ n ∧ k ≤ 30 ∧ i = .int .i64 k ∧ OwnP w.heap.size wr v ((is.take k).map cutI) ∧ Below w.heap.size w wr) (fun _ i _ => 30 - (intOf i).toNat)
  case atStart => exact ⟨0, Nat.zero_le _, Nat.zero_le _, rfl, by simpa using OwnP.nil _ _, Below.refl _ _⟩
  case round =>
    obtain ⟨k, hkn, hk30, rfl, hown, hb⟩ := hrel
    have hsz := hb.size
    have HO := hid hown
    have HB := hid hb
    clear hown hb
    by_cases hk : k < n ∧ k < 30
    · obtain ⟨hk, hk3⟩ := hk
      obtain ⟨b, off, lo, ln, lc, rfl, c0, c1, c2, c3, hrl, _⟩ := (Hr.out.below HB.out).cell k hk
      have hs := take_ins (is := is) (k := k) (by rw [Hx.out]; exact hk)
      obtain ⟨⟨op, p, q, l⟩, hI⟩ : ∃ I, I = is.getD k default := ⟨_, rfl⟩
      rw [← hI] at c0 c1 c2 hrl hs
      simp only at c0 c1 c2 hrl
      have Hs := hid hs
      have Hrl := hid hrl
      clear hI hs hrl
      go_wp2_with fail
      refine (cut_to op p q lo ln lc l _ Hrl.out).mono ?_
      rintro e w1 ⟨lo2, ln2, lc2, rfl, hown, hb⟩
      have HO1 := hid (HO.out.below hb (Nat.le_refl _))
      have HB1 := hid (Bl.step HB.out hb)
      have HC1 := hid hown
      have hsz1 := hb.size
      clear hb hown c0 c1 c2 c3
      obtain ⟨ps, hps, hrow, hin⟩ := HO1.out.below (Bl.alloc (Bl.refl w1) (.cells #[.int .i64 op, .int .i64 p, .int .i64 q, .slice lo2 ln2 lc2] 39)) (Nat.le_refl _)
      have hpl : ps.length = k := by have := congrArg List.length hps; simp at this; have := Hx.out; omega
      have HPS := hid hps
      have HROW := hid hrow
      have HIN := hid hin
      have HPL := hid hpl
      have hps30 : ps.length ≤ 30 := by omega
      clear hps hrow hin hpl
      obtain ⟨bc2, hrl2⟩ : ∃ c, Rd .i64 w1 lo2 ln2 lc2 (l.take 55) ∧ c = lc2 := by
        obtain ⟨ao', cap', hv, hr'⟩ := HC1.out.rd
        cases hv
        exact ⟨_, hr', rfl⟩
      have HRL2 := hid hrl2.1
      clear hrl2
      have hfar : ∀ ad, lo2 = some ad → wr.heap.size ≤ ad.block ∧ ad.block < w1.heap.size := by
        intro ad ha
        exact HC1.out.lt ad.block (by rw [ha]; rfl)
      have hold : ∀ b, u5.ownBlock = some b → w.heap.size ≤ b ∧ b < wr.heap.size := HO.out.lt
      obtain ⟨i0', hi0, hz0, hz1, hz2⟩ := info_parts infoIns
      go_wp2_with (at_builtin; apply stopHere)
      refine hid ?_
      refine wpList_append_lies _ rfl (.tmp 18) (.tmp 24) 22 rfl w.heap.size 39 i0' _ 4 48 Try.underlying22 hi0 hz0 hz1 hz2 rfl (by decide) u5 ps.length _ rfl HROW.out ⟨w1.heap.size, 0, none⟩ 1 1 [.int .i64 op, .int .i64 p, .int .i64 q, .slice lo2 ln2 lc2] rfl rfl (World.news_of_block (heap_alloc_new w1 _)) (by simp [Value.oneCell']) (by decide) (by unfold maxLen; omega) (by omega) (by simp; omega) (w1.heap.size + 1) (by simp) ?_
      intro g cap2 w2 o2 g2 hg2 _
      have HO2 := hid (OwnP.step HPS.out HIN.out ⟨op, p, q, lo2, ln2, lc2, l.take 55⟩ (HRL2.out.below (Bl.alloc (Bl.refl _) _)) (fun ad ha => ⟨by have := (hfar ad ha).2; simp; omega, fun e => by have := (hold _ e).2; have := (hfar ad ha).1; omega⟩) o2 g2 hg2 (by simp))
      have HB2 := hid (grow_below HB1.out (Bl.alloc (Bl.refl w1) _) g2 (fun b hb => (hold b hb).1) (by omega))
      clear o2 g2 hg2
      go_wp2_with fail
      go_roundw
      case rel =>
        refine ⟨k + 1, by omega, by omega, by go_num, ?_, HB2.out⟩
        rw [Hs.out, List.map_append]
        exact HO2.out
      case measure => simp [intOf]; omega
    · have htk : is.take 30 = is.take k := by
        rcases Nat.lt_or_ge k 30 with h3 | h3
        · have : ¬ k < n := fun h => hk ⟨h, h3⟩
          rw [List.take_of_length_le (by rw [Hx.out]; omega), List.take_of_length_le (by rw [Hx.out]; omega)]
        · rw [show k = 30 by omega]
      rcases Nat.lt_or_ge k n with h3 | h3
      · have hk3 : ¬ k < 30 := fun h => hk ⟨h3, h⟩
        go_wp2_with fail
        exact bodyPost_ret (v := u5) (by simp [results, Try.results12, go_sem]) rfl ⟨_, rfl, by rw [htk]; exact HO.out, HB.out⟩
      · go_wp2_with fail
        exact bodyPost_ret (v := u5) (by simp [results, Try.results12, go_sem]) rfl ⟨_, rfl, by rw [htk]; exact HO.out, HB.out⟩
end Go.Proofs.Ytfambbpggodlkaa
