/- super: Make. -/
import Derived.Test.YtpfcopdckjedfaaDoorSuF
namespace Go.Proofs.YtpfcopdckjedfaaDoor
open Go.RowKit
set_option linter.unusedVariables false
set_option maxRecDepth 100000

/-- Two sectors, one behind the other, as an argument. -/
theorem rd_two (w : World) (a b : Nat) (ha : a ≤ 4096) (hb : b ≤ 4096) : Rd .i64 (w.alloc (.cells #[.int .i64 (a : Int), .int .i64 (b : Int)] 3)) (some ⟨w.heap.size, 0, none⟩) 2 2 ([a, b].map Int.ofNat) :=
  Rd.builtAll w .i64 3 (0, 0) [(a : Int), (b : Int)] (by show 2 ≤ maxLen; unfold maxLen; omega) (by
    intro x hx
    simp only [List.mem_cons, List.not_mem_nil, or_false] at hx
    rcases hx with rfl | rfl <;> exact WalkArith.wf_i64 (by omega))
set_option maxHeartbeats 4000000 in
theorem suMake_to (X : DevSpec) (A : Nat → Prop) (M : Dv) (p : Addr) (w : World) (lo : Nat) (ao : Option Addr) (n cap : Nat) (b : List Int) (hat : X.At A M p w) (hr : Rd .u8 w ao n cap b) (hf : M.fuse = -1) (hc : M.calls < 100000000) (hn : n ≤ 40) (hlo : lo + 2 ≤ M.now.length) (hL : Laid w) :
    Calls Tryd.prog 9 #[.pointer (some p), .int .i64 lo, .slice ao n cap] w fun e w' => ∃ q A' B M', e = .returned (.tuple #[.pointer (some q), .int .i64 0]) ∧ (∀ b, A' b → A b ∨ w.heap.size ≤ b) ∧ (∀ b, B b → w.heap.size ≤ b) ∧ (∀ b, A' b → ¬ B b) ∧
      X.At A' M' p w' ∧ SuAt B ⟨p, lo, b, 1⟩ q w' ∧ Wrs A w w' ∧ SHas M'.now lo b 1 ∧ M'.still ∧ M'.fuse = -1 ∧ M'.calls ≤ M.calls + 10 ∧ M'.now.length = M.now.length ∧ ∀ i, i ≠ lo → i ≠ lo + 1 → M'.now.getD i [] = M.now.getD i [] := by
  have hbl := hr.len
  have hM := make_math (X.ok hat) hf hlo (b := b) (by omega)
  have hfit := fits_to X A M p w lo hat
  rw [show decide (0 ≤ (lo : Int) ∧ (lo : Int) < (M.now.length : Int) - 1) = true by simp; omega] at hfit
  have hlo2 : lo ≤ 2046 := by have := (X.ok hat).n2; omega
  have h1 : ¬ (40 : Int) < (n : Int) := by omega
  have HM := hid hM
  have HAT := hid hat
  have HR := hid hr
  have HL := hid hL
  have HN : Hid (∀ x, A x → x < w.heap.size) := hid (X.lt hat)
  have HBL := hid hbl
  clear hat hr hf hlo hL hM hbl
  go_enter Tryd.func9, Tryd.ntmps9
  go_wp2_with fail
  refine hfit.mono ?_
  rintro e w1 ⟨rfl, hb1⟩
  have HB1 := hid hb1
  have hcl := bclone_to ao n cap b w1 (HR.out.below hb1) (by omega)
  clear hb1 hfit
  go_wp2_with fail
  refine hcl.mono ?_
  rintro e w2 ⟨v, rfl, hv, hb2⟩
  obtain ⟨vo, vc, rfl, hrv⟩ := hv.rd
  rw [HBL.out] at hrv hv ⊢
  have HB2 := hid (HB1.out.trans (hb2.mono HB1.out.size))
  have HV := hid (show ∀ ad, vo = some ad → w.heap.size ≤ ad.block ∧ ad.block < w2.heap.size from fun ad e => by have := hv.lt ad.block (by rw [e]; rfl); have := HB1.out.size; omega)
  have HRV := hid hrv
  clear hv hrv hb2 hcl
  obtain ⟨wa, hwa⟩ : ∃ wa, w2.alloc (.cells #[.int .i64 1, .slice vo n vc] 52) = wa := ⟨_, rfl⟩
  obtain ⟨r, hr⟩ : ∃ r, w2.heap.size = r := ⟨_, rfl⟩
  have hBa : Below w2.heap.size w2 wa := by rw [← hwa]; exact Bl.alloc (Bl.refl w2) _
  have hKa : Cel wa r [.int .i64 1, .slice vo n vc] := by rw [← hwa, ← hr]; exact Cel.new w2 _ _
  have hsa : wa.heap.size = r + 1 := by rw [← hwa, ← hr]; simp
  have hwr : r ≥ w.heap.size := by rw [← hr]; exact HB2.out.size
  have hlw : IntKind.i64.wrap ((lo : Int) + 1) = (lo : Int) + 1 := IntWalk.i64_in _ (by omega)
  obtain ⟨wb, hwb⟩ : ∃ wb, wa.alloc (.cells #[.int .i64 (lo : Int), .int .i64 ((lo : Int) + 1)] 3) = wb := ⟨_, rfl⟩
  have hBb : Below wa.heap.size wa wb := by rw [← hwb]; exact Bl.alloc (Bl.refl wa) _
  have hrd2 : Rd .i64 wb (some ⟨r + 1, 0, none⟩) 2 2 ([lo, lo + 1].map Int.ofNat) := by rw [← hwb, ← hsa]; exact rd_two wa lo (lo + 1) (by omega) (by omega)
  have hBab := hBa.trans (hBb.mono hBa.size)
  have hB0b := HB2.out.trans (hBab.mono HB2.out.size)
  have hKb := hKa.below (Nat.succ_pos _) hBb
  have hst := store_to X A M p 1 vo n vc b (some ⟨r + 1, 0, none⟩) 2 2 [lo, lo + 1] wb (X.bel HAT.out hB0b) (HRV.out.below hBab) hn (by decide) (by decide) hrd2 (fun ad e h => by cases e; have := HN.out _ h; simp only at this; omega) hc (by omega) (HL.out.below hB0b)
  rw [HM.out.1] at hst
  have hsb : r + 1 < wb.heap.size := by rw [← hwb]; simp; omega
  have HKb := hid hKb
  have HRVb := hid (HRV.out.below hBab)
  have HB0b := hid hB0b
  have HAb := hid (X.bel HAT.out hB0b)
  have ka0 := hKa.cell 0 _ rfl
  have ka1 := hKa.cell 1 _ rfl
  clear hrd2 hBab hB0b hKb hBa hBb hKa
  go_wp2_with fail
  refine hst.mono ?_
  rintro e w3 ⟨A3, rfl, g1, g2, g3⟩
  have hK3 := HKb.out.same (g3.block r (by omega) (fun h => by have := HN.out _ h; omega))
  have c0 := hK3.cell 0 _ rfl
  have c1 := hK3.cell 1 _ rfl
  have hr3 : r < w3.heap.size := hK3.lt (Nat.succ_pos _)
  have HR3 := hid (HRVb.out.wrs g3 (fun ad e h => by have := (HV.out ad e).1; have := HN.out _ h; omega))
  have G := hid (And.intro g1 (And.intro g2 g3))
  clear g1 g2 g3 hst hK3 ka0 ka1
  go_wp2_with fail
  obtain ⟨wf, hwf⟩ : ∃ wf, w3.alloc (.cells #[.pointer (some p), .int .i64 1, .slice vo n vc, .int .i64 (lo : Int), .int .i64 ((lo : Int) + 1)] 55) = wf := ⟨_, rfl⟩
  have hBf : Below w3.heap.size w3 wf := by rw [← hwf]; exact Bl.alloc (Bl.refl w3) _
  have hBlk : Blk wf w3.heap.size 55 [.pointer (some p), .int .i64 1, .slice vo n vc, .int .i64 (lo : Int), .int .i64 ((lo : Int) + 1)] := by rw [← hwf]; exact Blk.new w3 _ _
  rw [hwf]
  go_ret2
  obtain ⟨g1, g2, g3⟩ := G.out
  have h3s := g3.size
  have hbs := HB0b.out.size
  have hVlt : ∀ ad, vo = some ad → 0 < n → ad.block < w3.heap.size := fun ad e h0 => by
    have hc := HR3.out.cell ad e 0 h0
    have hlt := World.block_lt_of_cell? _ _ hc
    have hbk : (ad.add 0).block = ad.block := by unfold Addr.add; split <;> rfl
    rwa [hbk] at hlt
  refine ⟨⟨w3.heap.size, 0, none⟩, A3, fun x => x = w3.heap.size ∨ ∃ ad, vo = some ad ∧ 0 < n ∧ x = ad.block, _, rfl, fun x hx => ?_, fun x hx => ?_, fun x hx hb => ?_, X.bel g2 hBf, ⟨w3.heap.size, vo, n, vc, rfl, hBlk, HR3.out.below hBf, .inl rfl, fun ad e h0 => ⟨.inr ⟨ad, e, h0, rfl⟩, by have := hVlt ad e h0; omega⟩, fun x hx => ?_⟩, ?_, HM.out.2.1, HM.out.2.2.1, HM.out.2.2.2.1, HM.out.2.2.2.2.1, HM.out.2.2.2.2.2.1, HM.out.2.2.2.2.2.2⟩
  · rcases g1 x hx with h | h
    · exact .inl h
    · exact .inr (by omega)
  · rcases hx with rfl | ⟨ad, e, h0, rfl⟩
    · omega
    · exact (HV.out ad e).1
  · rcases hb with rfl | ⟨ad, e, h0, rfl⟩
    · have := X.lt g2 _ hx; omega
    · rcases g1 _ hx with h | h
      · have := HN.out _ h; have := (HV.out ad e).1; omega
      · have := (HV.out ad e).2; omega
  · rcases hx with rfl | ⟨ad, e, h0, rfl⟩
    · rw [← hwf]; simp
    · have := hVlt ad e h0; have := hBf.size; omega
  · exact (Wrs.of HB0b.out).trans (g3.trans (Wrs.of (A := A) hBf) (fun b h => .inl h)) (fun b h => .inl h)
end Go.Proofs.YtpfcopdckjedfaaDoor
