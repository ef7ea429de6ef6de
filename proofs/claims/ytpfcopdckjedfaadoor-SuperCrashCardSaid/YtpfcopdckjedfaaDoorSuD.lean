/- super: a record out of a sector's bytes: decoded. -/
import Derived.Test.YtpfcopdckjedfaaDoorSuR
namespace Go.Proofs.YtpfcopdckjedfaaDoor
open Go.RowKit
set_option linter.unusedVariables false
set_option maxRecDepth 100000

theorem size_rec : (Tryd.prog.info? 52).map (·.size) = some 2 := by kernel_rfl
theorem zero_rec (w : World) : (zeroValue 52).run Tryd.prog w = .ok (.agg #[.int .i64 0, .slice none 0 0]) w := by kernel_rfl
/-- What is read wherever the blocks C are as now lies in C. -/
theorem Bx.inC {C : Nat → Prop} {k : IntKind} {w : World} {ad : Addr} {n cap : Nat} {xs : List Int} (h : Bx C w fun w => Rd k w (some ad) n cap xs) (h0 : 0 < n) : C ad.block := by
  classical
  by_cases hc : C ad.block
  · exact hc
  · exfalso
    have h1 := h { w with heap := w.heap.modify ad.block fun _ => .map #[] 0 } (fun b hb => by
      have : b ≠ ad.block := fun e => hc (e ▸ hb)
      simp [Array.getElem?_modify, Ne.symm this])
    have h2 := h1.cell ad rfl 0 h0
    have hbk : (ad.add 0).block = ad.block := by unfold Addr.add; split <;> rfl
    have hlt := World.block_lt_of_cell? _ _ h2
    unfold World.cell? at h2
    rw [hbk] at h2 hlt
    simp at hlt
    simp only [Array.getElem?_modify, if_true] at h2
    rw [Array.getElem?_eq_getElem hlt] at h2
    simp at h2
theorem Laid.gr {w w' : World} (h : Laid w) {r : Option Nat} (hg : w.grownBy w' r) (hr : r ≠ some 0) : Laid w' := fun i hi => by
  have hc := h i hi
  exact (World.cell?_of_block (hg.block 0 (World.block_lt_of_cell? w _ hc) (fun e => hr e.symm))).trans hc
theorem rd_no (k : IntKind) (w : World) : Bx (fun _ => False) w fun w => Rd k w none 0 0 [] := fun _ _ => Rd.empty _ _

set_option maxHeartbeats 4000000 in
theorem decoded_to (C : Nat → Prop) (ao : Option Addr) (n cap : Nat) (xs : List Int) (w : World) (hC : ∀ b, C b → b < w.heap.size) (h : Bx C w fun w => Rd .u8 w ao n cap xs) (hL : Laid w) :
    Calls Tryd.prog 24 #[.slice ao n cap] w fun e w' => ∃ bo bn bc, e = .returned (.agg #[.int .i64 (recD xs).1, .slice bo bn bc]) ∧ (Bx C w' fun w => Rd .u8 w bo bn bc (recD xs).2) ∧ Below w.heap.size w w' := by
  have HC := hid hC
  have HX := hid h
  have HL := hid hL
  obtain ⟨⟨t, ys⟩, hr⟩ : ∃ r, rSig xs = r := ⟨_, rfl⟩
  obtain ⟨⟨b, zs⟩, hb⟩ : ∃ r, rByt ys = r := ⟨_, rfl⟩
  have htb := rSig_bd xs
  have HD : Hid (recD xs = if t < 1 ∨ t = 9223372036854775807 ∨ 40 < b.length ∨ recE t b ≠ xs then (0, []) else (t, b)) := hid (by unfold recD; rw [hr]; simp only; rw [hb])
  rw [hr] at htb
  simp only at htb
  have HR := hid hr
  have HBY := hid hb
  obtain ⟨w0, hw0⟩ : ∃ w0, w.alloc (.cells #[.int .i64 0, .slice none 0 0] 52) = w0 := ⟨_, rfl⟩
  obtain ⟨r0, hr0⟩ : ∃ r0, w.heap.size = r0 := ⟨_, rfl⟩
  have hB0 : Below w.heap.size w w0 := by rw [← hw0]; exact Bl.alloc (Bl.refl w) _
  have HK0 := hid (show Cel w0 r0 [.int .i64 0, .slice none 0 0] by rw [← hw0, ← hr0]; exact Cel.new w _ _)
  have HB0 := hid hB0
  have hs0 : w0.heap.size = r0 + 1 := by rw [← hw0, ← hr0]; simp
  have hn1 := newReader_to ao n cap xs w0 C (fun b hb => Nat.lt_of_lt_of_le (hC b hb) hB0.size) (h.keep fun b hb => hB0.block b (hC b hb))
  have HC0 : Hid (∀ b, C b → b < r0) := hid (by rw [← hr0]; exact hC)
  have HL0 := hid (hL.below hB0)
  rw [hs0] at hn1
  clear hC h hL hr hb hB0
  go_enter Tryd.func24, Tryd.ntmps24
  go_wp2_with fail
  refine hn1.mono ?_
  rintro e w1 ⟨rfl, hrd, hb1⟩
  rw [← hs0] at hb1
  obtain ⟨w2, hw2⟩ : ∃ w2, w1.alloc (.cells #[.int .i64 0, .slice none 0 0] 52) = w2 := ⟨_, rfl⟩
  obtain ⟨r1, hr1⟩ : ∃ r1, w1.heap.size = r1 := ⟨_, rfl⟩
  have hrr : r0 + 2 ≤ r1 := by rw [← hr1]; have := hrd.lt; omega
  have hB2 : Below w1.heap.size w1 w2 := by rw [← hw2]; exact Bl.alloc (Bl.refl w1) _
  have hB02 := hb1.trans (hB2.mono hb1.size)
  have HK2 := hid (show Cel w2 r1 [.int .i64 0, .slice none 0 0] by rw [← hw2, ← hr1]; exact Cel.new w1 _ _)
  have HK02 := hid (HK0.out.below (Nat.succ_pos _) hB02)
  have HB2 := hid (HB0.out.trans (hB02.mono HB0.out.size))
  have HL2 := hid (HL0.out.below hB02)
  have hs2 : w2.heap.size = r1 + 1 := by rw [← hw2, ← hr1]; simp
  have HRD := hid (hrd.below hB2 (Nat.le_refl _))
  clear hb1 hrd hn1 hB2 hB02
  go_wp2_with fail
  refine (pkrSigned_to C _ w2 xs HRD.out).mono ?_
  rintro e w3 ⟨rfl, hrd, hg⟩
  rw [HR.out] at hrd ⊢
  have hK3 := HK2.out.grown (Nat.succ_pos _) hg (by simp; omega)
  have HK03 := hid (HK02.out.grown (Nat.succ_pos _) hg (by simp))
  have HB3 := hid (HB2.out.grown hg HB2.out.size fun k hk => by cases hk; omega)
  have HRD3 := hid hrd
  have HL3 : Hid (Laid w3) := hid (HL2.out.gr hg (by simp))
  have hs3 : r1 < w3.heap.size := hK3.lt (Nat.succ_pos _)
  have c0 := hK3.cell 0 _ rfl
  have f0 := hK3.fro 0 _ rfl
  have HK3 := hid hK3
  clear hK3 hrd hg
  go_wp2_with fail
  obtain ⟨w4, hw4⟩ : ∃ w4, w3.setCell ⟨r1, 0, none⟩ (.int .i64 t) = w4 := ⟨_, rfl⟩
  have hg4 : w3.grownBy w4 (some r1) := by rw [← hw4]; exact grown_set w3 ⟨r1, 0, none⟩ _
  have HK4 := hid (show Cel w4 r1 [.int .i64 t, .slice none 0 0] by rw [← hw4]; exact HK3.out.set 0 _ (by simp))
  have HK04 := hid (HK03.out.grown (Nat.succ_pos _) hg4 (by simp; omega))
  have HB4 := hid (HB3.out.grown hg4 HB3.out.size fun k hk => by cases hk; omega)
  have HRD4 := hid (HRD3.out.gr hg4 fun g e => by cases e; exact ⟨by omega, fun h => by have := HC0.out _ h; omega⟩)
  have HL4 := hid (HL3.out.gr hg4 (by simp; omega))
  rw [hw4]
  clear hw4 hg4 c0 f0
  refine (pkrBytes_to C _ w4 ys HRD4.out).mono ?_
  rintro e w5 ⟨bo, bn, bc, rfl, hbx, hrd, hg⟩
  rw [HBY.out] at hbx
  have hK5 := HK4.out.grown (Nat.succ_pos _) hg (by simp; omega)
  have hK05 := HK04.out.grown (Nat.succ_pos _) hg (by simp)
  have HB5 := hid (HB4.out.grown hg HB4.out.size fun k hk => by cases hk; omega)
  have HL5 := hid (HL4.out.gr hg (by simp))
  have HBX := hid hbx
  have hbl := hbx.now.len
  have hbc := hbx.now.cap63
  have hble := hbx.now.le
  have hs5 : r1 < w5.heap.size := hK5.lt (Nat.succ_pos _)
  have hs05 : r0 < w5.heap.size := hK05.lt (Nat.succ_pos _)
  have c0 := hK5.cell 0 _ rfl
  have c1 := hK5.cell 1 _ rfl
  have f0 := hK5.fro 0 _ rfl
  have f1 := hK5.fro 1 _ rfl
  have d0 := hK05.cell 0 _ rfl
  have d1 := hK05.cell 1 _ rfl
  have g0 := hK05.fro 0 _ rfl
  have g1 := hK05.fro 1 _ rfl
  have hne : r0 ≠ r1 := by omega
  have hne' : r1 ≠ r0 := by omega
  -- what is left where there is no record
  have HBAD : Hid (∀ w', (t < 1 ∨ t = 9223372036854775807 ∨ 40 < b.length ∨ recE t b ≠ xs) → Below w.heap.size w w' → ∃ bo bn bc, Ending.returned (.agg #[.int .i64 0, .slice none 0 0]) = .returned (.agg #[.int .i64 (recD xs).1, .slice bo bn bc]) ∧ (Bx C w' fun w => Rd .u8 w bo bn bc (recD xs).2) ∧ Below w.heap.size w w') := hid fun w' hx hb => by
    rw [HD.out, if_pos hx]
    exact ⟨none, 0, 0, rfl, fun _ _ => Rd.empty _ _, hb⟩
  have HLEN := hid hbl
  have HK5 := hid hK5
  have HK05 := hid hK05
  clear hbx hrd hg hK5 hK05 HRD4 HRD3 HK4 HK04 HK3 HK03 HK2 HK02 HRD HK0
  by_cases h1 : t < 1
  · have HW := hid (HBAD.out · (.inl h1))
    clear HBAD
    go_wp2_with fail
    obtain ⟨wf, hwf⟩ : ∃ wf, (((w5.setCell ⟨r1, 1, none⟩ (.slice bo bn bc)).setCell ⟨r0, 0, none⟩ (.int .i64 0)).setCell ⟨r0, 1, none⟩ (.slice none 0 0)) = wf := ⟨_, rfl⟩
    have hkf : Cel wf r0 [.int .i64 0, .slice none 0 0] := by rw [← hwf]; exact ((HK05.out.other hne 1 _).set 0 (.int .i64 0) (by simp)).set 1 (.slice none 0 0) (by simp)
    have hbf : Below w.heap.size w wf := by rw [← hwf]; exact ((HB5.out.setCell (p := ⟨r1, 1, none⟩) (by simp only; omega) _).setCell (p := ⟨r0, 0, none⟩) (by simp only; omega) _).setCell (p := ⟨r0, 1, none⟩) (by simp only; omega) _
    rw [hwf]
    have a0 := hkf.cell 0 _ rfl
    have a1 := hkf.cell 1 _ rfl
    refine bodyPost_ret (v := .agg #[.int .i64 0, .slice none 0 0]) (by simp [results, Tryd.results24, go_sem, a0, a1]) rfl (HW.out _ hbf)
  by_cases h2 : t = 9223372036854775807
  · have HW := hid (HBAD.out · (.inr (.inl h2)))
    subst h2
    clear HBAD
    go_wp2_with fail
    obtain ⟨wf, hwf⟩ : ∃ wf, (((w5.setCell ⟨r1, 1, none⟩ (.slice bo bn bc)).setCell ⟨r0, 0, none⟩ (.int .i64 0)).setCell ⟨r0, 1, none⟩ (.slice none 0 0)) = wf := ⟨_, rfl⟩
    have hkf : Cel wf r0 [.int .i64 0, .slice none 0 0] := by rw [← hwf]; exact ((HK05.out.other hne 1 _).set 0 (.int .i64 0) (by simp)).set 1 (.slice none 0 0) (by simp)
    have hbf : Below w.heap.size w wf := by rw [← hwf]; exact ((HB5.out.setCell (p := ⟨r1, 1, none⟩) (by simp only; omega) _).setCell (p := ⟨r0, 0, none⟩) (by simp only; omega) _).setCell (p := ⟨r0, 1, none⟩) (by simp only; omega) _
    rw [hwf]
    have a0 := hkf.cell 0 _ rfl
    have a1 := hkf.cell 1 _ rfl
    refine bodyPost_ret (v := .agg #[.int .i64 0, .slice none 0 0]) (by simp [results, Tryd.results24, go_sem, a0, a1]) rfl (HW.out _ hbf)
  have h2' : (t == 9223372036854775807) = false := by simpa using h2
  by_cases h3 : 40 < b.length
  · have HW := hid (HBAD.out · (.inr (.inr (.inl h3))))
    have h3' : (bn : Int) > 40 := by rw [hbl] at h3; omega
    clear HBAD hbl h3
    go_wp2_with fail
    obtain ⟨wf, hwf⟩ : ∃ wf, (((w5.setCell ⟨r1, 1, none⟩ (.slice bo bn bc)).setCell ⟨r0, 0, none⟩ (.int .i64 0)).setCell ⟨r0, 1, none⟩ (.slice none 0 0)) = wf := ⟨_, rfl⟩
    have hkf : Cel wf r0 [.int .i64 0, .slice none 0 0] := by rw [← hwf]; exact ((HK05.out.other hne 1 _).set 0 (.int .i64 0) (by simp)).set 1 (.slice none 0 0) (by simp)
    have hbf : Below w.heap.size w wf := by rw [← hwf]; exact ((HB5.out.setCell (p := ⟨r1, 1, none⟩) (by simp only; omega) _).setCell (p := ⟨r0, 0, none⟩) (by simp only; omega) _).setCell (p := ⟨r0, 1, none⟩) (by simp only; omega) _
    rw [hwf]
    have a0 := hkf.cell 0 _ rfl
    have a1 := hkf.cell 1 _ rfl
    refine bodyPost_ret (v := .agg #[.int .i64 0, .slice none 0 0]) (by simp [results, Tryd.results24, go_sem, a0, a1]) rfl (HW.out _ hbf)
  have h3' : ¬ (bn : Int) > 40 := by rw [hbl] at h3; omega
  have hb40 : b.length ≤ 40 := by omega
  obtain ⟨w6, hw6⟩ : ∃ w6, w5.setCell ⟨r1, 1, none⟩ (.slice bo bn bc) = w6 := ⟨_, rfl⟩
  have hg6 : w5.grownBy w6 (some r1) := by rw [← hw6]; exact grown_set w5 ⟨r1, 1, none⟩ _
  have hx6 : Bx C w6 fun w => Rd .u8 w bo bn bc b := HBX.out.keep fun x hx => hg6.block x (by have := HC0.out x hx; omega) (fun e => by cases e; have := HC0.out _ hx; omega)
  have henc := encoded_to t bo bn bc b w6 hx6.now hb40 htb.1 htb.2 (HL5.out.gr hg6 (by simp; omega))
  have HX6 := hid hx6
  have HK6 := hid (show Cel w6 r1 [.int .i64 t, .slice bo bn bc] by rw [← hw6]; exact HK5.out.set 1 _ (by simp))
  have HK06 := hid (HK05.out.grown (Nat.succ_pos _) hg6 (by simp; omega))
  have HB6 := hid (HB5.out.grown hg6 HB5.out.size fun k hk => by cases hk; omega)
  have hs6 : w5.heap.size ≤ w6.heap.size := hg6.size
  clear hx6 hg6 hb40 hbl h3
  have c60 := HK6.out.cell 0 _ rfl
  have c61 := HK6.out.cell 1 _ rfl
  go_wp2_with fail
  refine henc.mono ?_
  rintro e w7 ⟨v, rfl, hv, hb7⟩
  obtain ⟨vo, vc, rfl, hrv⟩ := hv.rd
  have hKa := HK6.out.below (Nat.succ_pos _) hb7
  have HK07 := hid (HK06.out.below (Nat.succ_pos _) hb7)
  have hb07 := HB6.out.trans (hb7.mono HB6.out.size)
  have heq := bytesEqual_to vo _ vc _ ao n cap xs w7 hrv (HX.out w7 fun b hb => hb07.block b (HC.out b hb))
  have HX7 := hid (HX6.out.keep fun b hb => hb7.block b (by have := HC0.out b hb; omega))
  have HB7 := hid hb07
  have HK7 := hid hKa
  clear hv hrv hb7 hKa hb07 henc c60 c61 c0 c1 f0 f1 d0 d1 g0 g1
  obtain ⟨l, hl⟩ : ∃ l, (recE t b).length = l := ⟨_, rfl⟩
  rw [hl] at heq ⊢
  clear hl
  go_wp2_with fail
  refine heq.mono ?_
  rintro e w8 ⟨rfl, hb8⟩
  have hK8 := HK7.out.below (Nat.succ_pos _) hb8
  have hK08 := HK07.out.below (Nat.succ_pos _) hb8
  have HB8 := hid (HB7.out.trans (hb8.mono HB7.out.size))
  have HX8 := hid (HX7.out.keep fun b hb => hb8.block b (by have := HC0.out b hb; have := hs6; have := HB7.out.size; omega))
  have c0 := hK8.cell 0 _ rfl
  have c1 := hK8.cell 1 _ rfl
  have d0 := hK08.cell 0 _ rfl
  have d1 := hK08.cell 1 _ rfl
  have g0 := hK08.fro 0 _ rfl
  have g1 := hK08.fro 1 _ rfl
  have HK08 := hid hK08
  have hs8 : r1 < w8.heap.size := hK8.lt (Nat.succ_pos _)
  have hs08 : r0 < w8.heap.size := hK08.lt (Nat.succ_pos _)
  clear heq hb8 hK8 hK08
  by_cases h4 : recE t b = xs
  · have e4 : (recE t b == xs) = true := by simpa using h4
    rw [e4]
    have HG : Hid (recD xs = (t, b)) := hid (by rw [HD.out, if_neg]; rintro (h | h | h | h); omega; exact h2 h; have := HLEN.out; omega; exact h h4)
    clear HBAD h4 e4
    go_wp2_with fail
    obtain ⟨wf, hwf⟩ : ∃ wf, (w8.setCell ⟨r0, 0, none⟩ (.int .i64 t)).setCell ⟨r0, 1, none⟩ (.slice bo bn bc) = wf := ⟨_, rfl⟩
    have hkf : Cel wf r0 [.int .i64 t, .slice bo bn bc] := by rw [← hwf]; exact (HK08.out.set 0 (.int .i64 t) (by simp)).set 1 (.slice bo bn bc) (by simp)
    have hbf : Below w.heap.size w wf := by rw [← hwf]; exact (HB8.out.setCell (p := ⟨r0, 0, none⟩) (by simp only; omega) _).setCell (p := ⟨r0, 1, none⟩) (by simp only; omega) _
    have hxf : Bx C wf fun w => Rd .u8 w bo bn bc b := by
      rw [← hwf]
      refine Bx.keep (w := w8.setCell ⟨r0, 0, none⟩ (.int .i64 t)) (HX8.out.keep fun x hx => ?_) fun x hx => ?_
      · exact Below.heap_setCell w8 ⟨r0, 0, none⟩ _ x (by simp only; have := HC0.out x hx; omega)
      · exact Below.heap_setCell _ ⟨r0, 1, none⟩ _ x (by simp only; have := HC0.out x hx; omega)
    rw [hwf]
    have a0 := hkf.cell 0 _ rfl
    have a1 := hkf.cell 1 _ rfl
    refine bodyPost_ret (v := .agg #[.int .i64 t, .slice bo bn bc]) (by simp [results, Tryd.results24, go_sem, a0, a1]) rfl ?_
    rw [HG.out]
    exact ⟨bo, bn, bc, rfl, hxf, hbf⟩
  · have e4 : (recE t b == xs) = false := by simpa using h4
    rw [e4]
    have HW := hid (HBAD.out · (.inr (.inr (.inr h4))))
    clear HBAD h4 e4
    go_wp2_with fail
    obtain ⟨wf, hwf⟩ : ∃ wf, (w8.setCell ⟨r0, 0, none⟩ (.int .i64 0)).setCell ⟨r0, 1, none⟩ (.slice none 0 0) = wf := ⟨_, rfl⟩
    have hkf : Cel wf r0 [.int .i64 0, .slice none 0 0] := by rw [← hwf]; exact (HK08.out.set 0 (.int .i64 0) (by simp)).set 1 (.slice none 0 0) (by simp)
    have hbf : Below w.heap.size w wf := by rw [← hwf]; exact (HB8.out.setCell (p := ⟨r0, 0, none⟩) (by simp only; omega) _).setCell (p := ⟨r0, 1, none⟩) (by simp only; omega) _
    rw [hwf]
    have a0 := hkf.cell 0 _ rfl
    have a1 := hkf.cell 1 _ rfl
    refine bodyPost_ret (v := .agg #[.int .i64 0, .slice none 0 0]) (by simp [results, Tryd.results24, go_sem, a0, a1]) rfl (HW.out _ hbf)
end Go.Proofs.YtpfcopdckjedfaaDoor
