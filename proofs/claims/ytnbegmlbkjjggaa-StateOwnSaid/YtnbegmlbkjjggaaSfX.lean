/- package state: Decode. -/
import Derived.Test.YtnbegmlbkjjggaaSfD
import Derived.Test.YtnbegmlbkjjggaaBytesEq
namespace Go.Proofs.Ytnbegmlbkjjggaa
open Go.RowKit
set_option linter.unusedVariables false

noncomputable def decSt (b : List Int) : Option St := by
  classical exact if mayS (rSt b) = true ∧ stE (rSt b) = b then some (rSt b) else none
/-- What Decode leaves; d: what its bytes are decoded to. -/
def DecO (d : Option St) (w : World) (e : Ending) (w' : World) : Prop :=
  ∃ V S c, e = .returned (.tuple #[.agg (SV.cells V S).toArray, .int .i64 c]) ∧ ((d = some S ∧ c = 0) ∨ (d = none ∧ S = ⟨[], [], 0⟩ ∧ c = 11)) ∧ StR V S w' ∧ Below w.heap.size w w'
theorem DecO.bad {d : Option St} {w w' : World} (hd : d = none) (hb : Below w.heap.size w w') : DecO d w (.returned (.tuple #[.agg #[.slice none 0 0, .slice none 0 0, .int .i64 0], .int .i64 11])) w' :=
  ⟨⟨none, 0, 0, none, 0, 0⟩, ⟨[], [], 0⟩, 11, rfl, .inr ⟨hd, rfl, rfl⟩, ⟨RdG.empty _, RdG.empty _, by decide⟩, hb⟩
theorem DecO.good {d : Option St} {w w' : World} (V : SV) (S : St) (hd : d = some S) (h : StR V S w') (hb : Below w.heap.size w w') : DecO d w (.returned (.tuple #[.agg (V.cells S).toArray, .int .i64 0])) w' :=
  ⟨V, S, 0, rfl, .inl ⟨hd, rfl⟩, h, hb⟩
set_option maxRecDepth 100000 in
set_option maxHeartbeats 2000000 in
theorem decState_to (ao : Option Addr) (n cap : Nat) (b : List Int) (w : World) (h : Rd .u8 w ao n cap b) : Calls Try.prog 15 #[.slice ao n cap] w (DecO (decSt b) w) := by
  obtain ⟨p, hp⟩ : ∃ p, w.heap.size = p := ⟨_, rfl⟩
  obtain ⟨w0, hw0⟩ : ∃ w0, (w.alloc (.cells #[.slice none 0 0, .slice none 0 0, .int .i64 0] 25)) = w0 := ⟨_, rfl⟩
  have hb0 : Below p w w0 := by rw [← hw0, ← hp]; exact Bl.alloc (Bl.refl w) _
  have hA : Cel w0 p [.slice none 0 0, .slice none 0 0, .int .i64 0] := by rw [← hw0, ← hp]; exact Cel.new w _ _
  have hz0 : w0.heap.size = p + 1 := by rw [← hw0, ← hp]; simp
  have hrd0 : Rd .u8 w0 ao n cap b := h.below (by rw [hp]; exact hb0)
  have hcall := read_to ao n cap b w0 hrd0
  obtain ⟨⟨vs, fs, asks⟩, hS⟩ : ∃ S, rSt b = S := ⟨_, rfl⟩
  rw [hS] at hcall
  have hdec : decSt b = if mayS ⟨vs, fs, asks⟩ = true ∧ stE ⟨vs, fs, asks⟩ = b then some ⟨vs, fs, asks⟩ else none := by unfold decSt; rw [hS]
  obtain ⟨d, hd⟩ : ∃ d, decSt b = d := ⟨_, rfl⟩
  rw [hd] at hdec ⊢
  have HDEC := hid hdec
  have HCALL := hid hcall
  have HA := hid hA
  have HB0 := hid hb0
  have HZ0 := hid hz0
  have HRD := hid (Rd.rx hrd0)
  have HW0 := hid hw0
  have HP := hid hp
  clear hcall hA hb0 hz0 hrd0 hw0 hS hdec h hd
  go_enter Try.func15, Try.ntmps15
  go_wp2_with fail
  rw [HW0.out]
  refine HCALL.out.mono ?_
  rintro e w1 ⟨⟨vo, vn, vc, fo, fn, fc⟩, rfl, hbx, hg⟩
  have hb1 : Below w0.heap.size w0 w1 := (Below.refl _ _).grown hg (Nat.le_refl _) (fun q hq => by cases hq; exact Nat.le_succ _)
  have hcs : SV.cells ⟨vo, vn, vc, fo, fn, fc⟩ ⟨vs, fs, asks⟩ = [.slice vo vn vc, .slice fo fn fc, .int .i64 asks] := rfl
  rw [hcs]
  have hA1 := HA.out.below (Nat.succ_pos _) hb1
  obtain ⟨w2, hw2⟩ : ∃ w2, (w1.alloc (.cells #[.slice vo vn vc, .slice fo fn fc, .int .i64 asks] 25)) = w2 := ⟨_, rfl⟩
  obtain ⟨q, hq⟩ : ∃ q, w1.heap.size = q := ⟨_, rfl⟩
  have hb2 : Below w1.heap.size w1 w2 := by rw [← hw2]; exact Bl.alloc (Bl.refl w1) _
  have hB : Cel w2 q [.slice vo vn vc, .slice fo fn fc, .int .i64 asks] := by rw [← hw2, ← hq]; exact Cel.new w1 _ _
  have hqs : q < w2.heap.size := by rw [← hw2, ← hq]; simp
  have hbb : Below p w w2 := HB0.out.trans ((hb1.trans (hb2.mono hb1.size)).mono (by rw [HZ0.out]; omega))
  have hst2 : Bx (fun b => w0.heap.size ≤ b ∧ b < w1.heap.size) w2 (StR ⟨vo, vn, vc, fo, fn, fc⟩ ⟨vs, fs, asks⟩) := hbx.keep fun b hb => hb2.block b hb.2
  have hA2 := hA1.below (Nat.succ_pos _) hb2
  have hrd2 := (HRD.out.below (hb1.trans (hb2.mono hb1.size)))
  have hz1 := hb1.size
  rw [HZ0.out] at hz1
  have hpq : p < q := by omega
  have hps : p < w2.heap.size := by omega
  have hmay := mayState_to ⟨vo, vn, vc, fo, fn, fc⟩ ⟨vs, fs, asks⟩ w2 hst2.now
  have HENC : Hid (∀ w3, Below w2.heap.size w2 w3 → mayS ⟨vs, fs, asks⟩ = true → Calls Try.prog 21 #[.agg #[.slice vo vn vc, .slice fo fn fc, .int .i64 asks]] w3 fun e w' => ∃ v, e = .returned v ∧ Own 5 .u8 w3.heap.size w' v (stE ⟨vs, fs, asks⟩) ∧ Below w3.heap.size w3 w') := hid fun w3 hb hm =>
    encoded_to ⟨vo, vn, vc, fo, fn, fc⟩ ⟨vs, fs, asks⟩ w3 ((hst2.keep fun b hb' => hb.block b (Nat.lt_of_lt_of_le hb'.2 hb2.size)).now) hm
  rw [hcs] at hmay
  have HMAY := hid hmay
  have HST := hid hst2
  have HAA := hid hA2
  have HBB := hid hbb
  have HRD2 := hid hrd2
  have HBC := hid hB
  have HW2 := hid hw2
  have HQ := hid hq
  have HZ1 : Hid (w1.heap.size ≤ w2.heap.size) := hid hb2.size
  clear hmay hst2 hA2 hbb hrd2 hB hw2 hq hb1 hb2 hbx hg hA1 hcs HRD HA HB0
  have b0 := HBC.out.cell 0 _ rfl
  have b1 := HBC.out.cell 1 _ rfl
  have b2 := HBC.out.cell 2 _ rfl
  have a0 := HAA.out.cell 0 _ rfl
  have a1 := HAA.out.cell 1 _ rfl
  have a2 := HAA.out.cell 2 _ rfl
  have fa0 := HAA.out.fro 0 _ rfl
  have fa1 := HAA.out.fro 1 _ rfl
  have fa2 := HAA.out.fro 2 _ rfl
  obtain ⟨t, ht⟩ : ∃ t, mayS ⟨vs, fs, asks⟩ = t := ⟨_, rfl⟩
  rw [ht] at HMAY
  have HT := hid ht
  clear ht
  cases t with
  | false =>
    go_wp2_with fail
    rw [HW2.out, HQ.out]
    go_wp2_with fail
    refine HMAY.out.mono ?_
    rintro e w3 ⟨rfl, hb3⟩
    have a0 := (hb3.cell (p := ⟨p, 0, none⟩) hps).trans a0
    have a1 := (hb3.cell (p := ⟨p, 1, none⟩) hps).trans a1
    have a2 := (hb3.cell (p := ⟨p, 2, none⟩) hps).trans a2
    have fa0 := (hb3.frozen (p := ⟨p, 0, none⟩) hps).trans fa0
    have fa1 := (hb3.frozen (p := ⟨p, 1, none⟩) hps).trans fa1
    have fa2 := (hb3.frozen (p := ⟨p, 2, none⟩) hps).trans fa2
    have HB3 := hid hb3
    clear hb3
    go_wp2_with fail
    refine bodyPost_ret (v := .tuple #[.agg #[.slice none 0 0, .slice none 0 0, .int .i64 0], .int .i64 11]) (by simp [results, Try.results15, go_sem, a0, a1, a2]) rfl (DecO.bad (by rw [HDEC.out, HT.out]; simp) ?_)
    have hbe : Below p w w3 := HBB.out.trans (HB3.out.mono (by omega))
    rw [hp]
    exact ((hbe.setCell (p := ⟨p, 0, none⟩) (Nat.le_refl _) _).setCell (p := ⟨p, 1, none⟩) (Nat.le_refl _) _).setCell (p := ⟨p, 2, none⟩) (Nat.le_refl _) _
  | true =>
    obtain ⟨t2, ht2⟩ : ∃ t2, (stE ⟨vs, fs, asks⟩ == b) = t2 := ⟨_, rfl⟩
    have HT2 := hid ht2
    clear ht2
    cases t2 with
    | false =>
      go_wp2_with fail
      rw [HW2.out, HQ.out]
      go_wp2_with fail
      refine HMAY.out.mono ?_
      rintro e w3 ⟨rfl, hb3⟩
      have b0' := (hb3.cell (p := ⟨q, 0, none⟩) hqs).trans b0
      have b1' := (hb3.cell (p := ⟨q, 1, none⟩) hqs).trans b1
      have b2' := (hb3.cell (p := ⟨q, 2, none⟩) hqs).trans b2
      have HE := hid (HENC.out w3 hb3 HT.out)
      have HB3 := hid hb3
      clear hb3 b0 b1 b2
      go_wp2_with fail
      refine HE.out.mono ?_
      rintro e w4 ⟨v4, rfl, hv4, hb4⟩
      obtain ⟨o4, k4, rfl, hr4⟩ := hv4.rd
      have hb24 := HB3.out.trans (hb4.mono HB3.out.size)
      have HQ4 := hid (bytesEqual_to o4 _ k4 _ ao n cap b w4 hr4 (HRD2.out.below hb24).now)
      rw [HT2.out] at HQ4
      have HB24 := hid hb24
      clear hv4 hb4 hr4 hb24 HE b0' b1' b2'
      obtain ⟨m4, hm4⟩ : ∃ m4, (stE ⟨vs, fs, asks⟩).length = m4 := ⟨_, rfl⟩
      rw [hm4] at HQ4 ⊢
      clear hm4
      go_wp2_with fail
      refine HQ4.out.mono ?_
      rintro e w5 ⟨rfl, hb5⟩
      have hb25 := HB24.out.trans (hb5.mono HB24.out.size)
      have a0 := (hb25.cell (p := ⟨p, 0, none⟩) hps).trans a0
      have a1 := (hb25.cell (p := ⟨p, 1, none⟩) hps).trans a1
      have a2 := (hb25.cell (p := ⟨p, 2, none⟩) hps).trans a2
      have fa0 := (hb25.frozen (p := ⟨p, 0, none⟩) hps).trans fa0
      have fa1 := (hb25.frozen (p := ⟨p, 1, none⟩) hps).trans fa1
      have fa2 := (hb25.frozen (p := ⟨p, 2, none⟩) hps).trans fa2
      have b0 := (hb25.cell (p := ⟨q, 0, none⟩) hqs).trans (HBC.out.cell 0 _ rfl)
      have b1 := (hb25.cell (p := ⟨q, 1, none⟩) hqs).trans (HBC.out.cell 1 _ rfl)
      have b2 := (hb25.cell (p := ⟨q, 2, none⟩) hqs).trans (HBC.out.cell 2 _ rfl)
      have HB25 := hid hb25
      have hbe : Below p w w5 := HBB.out.trans (hb25.mono (by omega))
      clear hb25 hb5 HQ4
      go_wp2_with fail
      refine bodyPost_ret (v := .tuple #[.agg #[.slice none 0 0, .slice none 0 0, .int .i64 0], .int .i64 11]) (by simp [results, Try.results15, go_sem, a0, a1, a2]) rfl (DecO.bad (by rw [HDEC.out, if_neg]; intro hh; have := HT2.out; rw [hh.2] at this; simp at this) ?_)
      rw [hp]
      exact ((hbe.setCell (p := ⟨p, 0, none⟩) (Nat.le_refl _) _).setCell (p := ⟨p, 1, none⟩) (Nat.le_refl _) _).setCell (p := ⟨p, 2, none⟩) (Nat.le_refl _) _
    | true =>
      go_wp2_with fail
      rw [HW2.out, HQ.out]
      go_wp2_with fail
      refine HMAY.out.mono ?_
      rintro e w3 ⟨rfl, hb3⟩
      have b0' := (hb3.cell (p := ⟨q, 0, none⟩) hqs).trans b0
      have b1' := (hb3.cell (p := ⟨q, 1, none⟩) hqs).trans b1
      have b2' := (hb3.cell (p := ⟨q, 2, none⟩) hqs).trans b2
      have HE := hid (HENC.out w3 hb3 HT.out)
      have HB3 := hid hb3
      clear hb3 b0 b1 b2
      go_wp2_with fail
      refine HE.out.mono ?_
      rintro e w4 ⟨v4, rfl, hv4, hb4⟩
      obtain ⟨o4, k4, rfl, hr4⟩ := hv4.rd
      have hb24 := HB3.out.trans (hb4.mono HB3.out.size)
      have HQ4 := hid (bytesEqual_to o4 _ k4 _ ao n cap b w4 hr4 (HRD2.out.below hb24).now)
      rw [HT2.out] at HQ4
      have HB24 := hid hb24
      clear hv4 hb4 hr4 hb24 HE b0' b1' b2'
      obtain ⟨m4, hm4⟩ : ∃ m4, (stE ⟨vs, fs, asks⟩).length = m4 := ⟨_, rfl⟩
      rw [hm4] at HQ4 ⊢
      clear hm4
      go_wp2_with fail
      refine HQ4.out.mono ?_
      rintro e w5 ⟨rfl, hb5⟩
      have hb25 := HB24.out.trans (hb5.mono HB24.out.size)
      have a0 := (hb25.cell (p := ⟨p, 0, none⟩) hps).trans a0
      have a1 := (hb25.cell (p := ⟨p, 1, none⟩) hps).trans a1
      have a2 := (hb25.cell (p := ⟨p, 2, none⟩) hps).trans a2
      have fa0 := (hb25.frozen (p := ⟨p, 0, none⟩) hps).trans fa0
      have fa1 := (hb25.frozen (p := ⟨p, 1, none⟩) hps).trans fa1
      have fa2 := (hb25.frozen (p := ⟨p, 2, none⟩) hps).trans fa2
      have b0 := (hb25.cell (p := ⟨q, 0, none⟩) hqs).trans (HBC.out.cell 0 _ rfl)
      have b1 := (hb25.cell (p := ⟨q, 1, none⟩) hqs).trans (HBC.out.cell 1 _ rfl)
      have b2 := (hb25.cell (p := ⟨q, 2, none⟩) hqs).trans (HBC.out.cell 2 _ rfl)
      have HB25 := hid hb25
      have hbe : Below p w w5 := HBB.out.trans (hb25.mono (by omega))
      clear hb25 hb5 HQ4
      go_wp2_with fail
      refine bodyPost_ret (v := .tuple #[.agg #[.slice vo vn vc, .slice fo fn fc, .int .i64 asks], .int .i64 0]) (by simp [results, Try.results15, go_sem, a0, a1, a2]) rfl (DecO.good ⟨vo, vn, vc, fo, fn, fc⟩ ⟨vs, fs, asks⟩ (HDEC.out.trans (if_pos ⟨HT.out, by have := HT2.out; simpa using this⟩)) ?_ ?_)
      · have h1 := HST.out.keep (w' := w5) (fun b hb => HB25.out.block b (Nat.lt_of_lt_of_le hb.2 HZ1.out))
        refine (h1.keep (fun b hb => ?_)).now
        have hbp : b ≠ p := by have := hb.1; rw [HZ0.out] at this; omega
        exact (Below.heap_setCell _ _ _ b hbp).trans ((Below.heap_setCell _ _ _ b hbp).trans (Below.heap_setCell _ _ _ b hbp))
      · rw [hp]
        exact ((hbe.setCell (p := ⟨p, 0, none⟩) (Nat.le_refl _) _).setCell (p := ⟨p, 1, none⟩) (Nat.le_refl _) _).setCell (p := ⟨p, 2, none⟩) (Nat.le_refl _) _
end Go.Proofs.Ytnbegmlbkjjggaa
