/- super: Open. -/
import Derived.Test.YtpfcopdckjedfaaDoorSuG
namespace Go.Proofs.YtpfcopdckjedfaaDoor
open Go.RowKit
set_option linter.unusedVariables false
set_option maxRecDepth 100000

/-- A text in memory: its turn, its bytes, the sector that holds it, the other one. -/
def SuC (B : Nat → Prop) (d : Addr) (t : Int) (x : List Int) (held spare : Nat) (q : Addr) (w : World) : Prop := ∃ p ao n cap, q = ⟨p, 0, none⟩ ∧
  Blk w p 55 [.pointer (some d), .int .i64 t, .slice ao n cap, .int .i64 (held : Int), .int .i64 (spare : Int)] ∧
  Rd .u8 w ao n cap x ∧ B p ∧ (∀ ad, ao = some ad → 0 < n → B ad.block ∧ ad.block ≠ p) ∧ (∀ b, B b → b < w.heap.size)
theorem Own.bxC {E : TypeId} {k : IntKind} {base : Nat} {w : World} {v : Value} {xs : List Int} (h : Own E k base w v xs) : ∃ ao cap, v = .slice ao xs.length cap ∧ Bx (fun b => v.ownBlock = some b) w fun w => Rd k w ao xs.length cap xs := by
  obtain ⟨ao, cap, rfl, hr⟩ := h.rd
  exact ⟨ao, cap, rfl, fun w' h' => hr.stay fun ad e _ => h' _ (by rw [e]; rfl)⟩
/-- The two records that Open has read so far. -/
def There (w wr : World) (T : Nat) (S : List Sec) (lo : Nat) (k : Int) : Prop := ∃ o0 n0 c0 o1 n1 c1 t0 x0 t1 x1, Cel wr T [.int .i64 t0, .slice o0 n0 c0, .int .i64 t1, .slice o1 n1 c1] ∧ Rd .u8 wr o0 n0 c0 x0 ∧ Rd .u8 wr o1 n1 c1 x1 ∧
  (∀ ad, o0 = some ad → 0 < n0 → w.heap.size ≤ ad.block ∧ ad.block ≠ T) ∧ (∀ ad, o1 = some ad → 0 < n1 → w.heap.size ≤ ad.block ∧ ad.block ≠ T) ∧ (0 < k → recD (S.getD lo []) = (t0, x0)) ∧ (1 < k → recD (S.getD (lo + 1) []) = (t1, x1))
/-- What Open answers. -/
inductive OpO (w : World) (d : Addr) (lo : Nat) (S0 S1 : Sec) : Ending → World → Prop
  | one (w' : World) (q : Addr) (B : Nat → Prop) (h : (recD S0).1 < (recD S1).1) (hB : ∀ b, B b → w.heap.size ≤ b) (hs : SuC B d (recD S1).1 (recD S1).2 (lo + 1) lo q w') : OpO w d lo S0 S1 (.returned (.tuple #[.pointer (some q), .int .i64 0])) w'
  | nought (w' : World) (q : Addr) (B : Nat → Prop) (h : (recD S1).1 ≤ (recD S0).1) (h0 : (recD S0).1 ≠ 0) (hB : ∀ b, B b → w.heap.size ≤ b) (hs : SuC B d (recD S0).1 (recD S0).2 lo (lo + 1) q w') : OpO w d lo S0 S1 (.returned (.tuple #[.pointer (some q), .int .i64 0])) w'
  | none (w' : World) (h : (recD S1).1 ≤ (recD S0).1) (h0 : (recD S0).1 = 0) : OpO w d lo S0 S1 (.returned (.tuple #[.pointer none, .int .i64 11])) w'
abbrev intOfH : Value → Int
  | .int _ x => x
  | _ => 0
theorem readE_ok {M : Dv} {i : Nat} (h : i < M.now.length) : M.readE i = 0 ∧ M.read i = M.now.getD i [] := by
  refine ⟨by unfold Dv.readE; rw [if_neg (by omega)], ?_⟩
  unfold Dv.read
  rw [if_neg (by omega), Int.toNat_natCast]

set_option maxHeartbeats 4000000 in
theorem open_core (X : DevSpec) (A : Nat → Prop) (M : Dv) (p : Addr) (w : World) (lo : Nat) (hat : X.At A M p w) (hlo : lo + 2 ≤ M.now.length) (hL : Laid w) :
    Calls Tryd.prog 12 #[.pointer (some p), .int .i64 lo] w fun e w' => OpO w p lo (M.now.getD lo []) (M.now.getD (lo + 1) []) e w' ∧ Below w.heap.size w w' := by
  have hfit := fits_to X A M p w lo hat
  rw [show decide (0 ≤ (lo : Int) ∧ (lo : Int) < (M.now.length : Int) - 1) = true by simp; omega] at hfit
  have hlo2 : lo ≤ 2046 := by have := (X.ok hat).n2; omega
  have HAT := hid hat
  have HL := hid hL
  have HLO := hid hlo
  have HOK := hid (X.ok hat)
  obtain ⟨Z0, hZ0⟩ : ∃ S, M.now.getD lo [] = S := ⟨_, rfl⟩
  obtain ⟨Z1, hZ1⟩ : ∃ S, M.now.getD (lo + 1) [] = S := ⟨_, rfl⟩
  rw [hZ0, hZ1]
  have HZ0 := hid hZ0
  have HZ1 := hid hZ1
  clear hat hL hlo hZ0 hZ1
  go_enter Tryd.func12, Tryd.ntmps12
  go_wp2_with fail
  refine hfit.mono ?_
  rintro e w1 ⟨rfl, hb1⟩
  obtain ⟨w2, hw2⟩ : ∃ w2, w1.alloc (.cells #[.int .i64 0, .slice none 0 0, .int .i64 0, .slice none 0 0] 56) = w2 := ⟨_, rfl⟩
  obtain ⟨T, hT⟩ : ∃ T, w1.heap.size = T := ⟨_, rfl⟩
  have hB2 : Below w1.heap.size w1 w2 := by rw [← hw2]; exact Bl.alloc (Bl.refl w1) _
  have hTw : w.heap.size ≤ T := by rw [← hT]; exact hb1.size
  have HB := hid (hb1.trans (hB2.mono hb1.size))
  have HTH : Hid (There w w2 T M.now lo 0) := hid ⟨none, 0, 0, none, 0, 0, 0, [], 0, [], by rw [← hw2, ← hT]; exact Cel.new w1 _ _, Rd.empty _ _, Rd.empty _ _, (fun _ h => by cases h), (fun _ h => by cases h), (fun h => by omega), (fun h => by omega)⟩
  have HAT2 := hid (X.bel HAT.out HB.out)
  clear hb1 hfit hB2
  go_wp2_with fail
  go_loopw [15] (fun i wr => ∃ k : Int, (k = 0 ∨ k = 1 ∨ k = 2) ∧ i = .int .i64 k ∧ There w wr T M.now lo k ∧ X.At A M p wr ∧ Below w.heap.size w wr) (fun i _ => 2 - (intOfH i).toNat)
  case atStart => exact ⟨0, .inl rfl, rfl, HTH.out, HAT2.out, HB.out⟩
  case round =>
    clear HB HTH HAT2
    obtain ⟨k, hk, rfl, hth, hat, hb⟩ := hrel
    have HT := hid hth
    have HAT2 := hid hat
    have HB := hid hb
    rcases hk with rfl | rfl | rfl
    · have hj : lo < M.now.length := by have := HLO.out; omega
      obtain ⟨er, ev⟩ := readE_ok (M := M) hj
      have hl64 := Dv.ok64 HOK.out hj
      have hrd := X.read_to A M p wr ((lo : Nat) : Int) hat (WalkArith.wf_i64 (by omega))
      rw [er, ev] at hrd
      obtain ⟨S0, hS0⟩ : ∃ S, M.now.getD (lo) [] = S := ⟨_, rfl⟩
      rw [hS0] at hrd hl64
      have HS0 := hid hS0
      have hsz := HB.out.size
      rw [show ((lo : Nat) : Int) = (lo : Int) by omega] at hrd
      have hw0 : IntKind.i64.wrap (lo : Int) = (lo : Int) := IntWalk.i64_in _ (by omega)
      have hw1 : IntKind.i64.wrap ((lo : Int) + 1) = (lo : Int) + 1 := IntWalk.i64_in _ (by omega)
      clear hth hat hb hj er ev hS0
      go_wp2_with fail
      refine hrd.mono ?_
      rintro e w3 ⟨v, rfl, hv, hb3⟩
      have hlt := hv.lt
      obtain ⟨ao, cap, rfl, hbx⟩ := hv.bxC
      rw [hl64] at hlt hbx ⊢
      have hdc := decoded_to _ ao 64 cap S0 w3 (fun b hb => (hlt b hb).2) hbx (HL.out.below (Bl.step HB.out hb3))
      have HLT := hid hlt
      have HB3 := hid hb3
      clear hv hlt hbx hb3 hrd hl64
      go_wp2_with fail
      refine hdc.mono ?_
      rintro e w4 ⟨bo, bn, bc, rfl, hbx, hb4⟩
      obtain ⟨o0, n0, c0, o1, n1, c1, t0, x0, t1, x1, hK, hr0, hr1, hp0, hp1, hq0, hq1⟩ := HT.out
      have hTr := hK.lt (Nat.succ_pos _)
      have hb34 := Bl.step HB3.out hb4
      have hK4 := hK.below (Nat.succ_pos _) hb34
      have HIN := hid (show ∀ ad, bo = some ad → 0 < bn → wr.heap.size ≤ ad.block from fun ad e h0 => by subst e; exact (HLT.out _ (Bx.inC hbx h0)).1)
      have HRN := hid hbx.now
      have HG := hid (And.intro hr0 (And.intro hr1 (And.intro hp0 (And.intro hp1 (And.intro hq0 hq1)))))
      have HB34 := hid hb34
      have HK4 := hid hK4
      have d0 := hK4.cell 0 _ rfl
      have d1 := hK4.cell 1 _ rfl
      have f0 := hK4.fro 0 _ rfl
      have f1 := hK4.fro 1 _ rfl
      have hT4 : T < w4.heap.size := hK4.lt (Nat.succ_pos _)
      clear hbx hr0 hr1 hp0 hp1 hq0 hq1 hb34 hK4 hK hb4 hdc
      go_wp2_with fail
      obtain ⟨wf, hwf⟩ : ∃ wf, (w4.setCell ⟨T, 0, none⟩ (.int .i64 (recD S0).1)).setCell ⟨T, 1, none⟩ (.slice bo bn bc) = wf := ⟨_, rfl⟩
      rw [hwf]
      go_roundw
      case rel =>
        have hbl : ∀ x, x ≠ T → wf.heap[x]? = w4.heap[x]? := fun x hx => by
          rw [← hwf]
          exact (Below.heap_setCell _ ⟨T, 1, none⟩ _ x (by simp only; exact hx)).trans (Below.heap_setCell w4 ⟨T, 0, none⟩ _ x (by simp only; exact hx))
        have hAT := X.lt HAT.out
        obtain ⟨hr0, hr1, hp0, hp1, hq0, hq1⟩ := HG.out
        have kp : ∀ {o : Option Addr} {m c : Nat} {x : List Int}, Rd .u8 wr o m c x → (∀ ad, o = some ad → 0 < m → w.heap.size ≤ ad.block ∧ ad.block ≠ T) → Rd .u8 wf o m c x := fun h hp => (h.below HB34.out).stay fun ad e h0 => hbl _ (hp ad e h0).2
        have kn : Rd .u8 wf bo bn bc (recD S0).2 := HRN.out.stay fun ad e h0 => hbl _ (by have := HIN.out ad e h0; omega)
        refine ⟨1, .inr (.inl rfl), rfl, ⟨bo, bn, bc, o1, n1, c1, (recD S0).1, (recD S0).2, t1, x1, by rw [← hwf]; exact (HK4.out.set 0 (.int .i64 (recD S0).1) (by simp)).set 1 (.slice bo bn bc) (by simp), kn, kp hr1 hp1, fun ad e h0 => ⟨by have := HIN.out ad e h0; omega, by have := HIN.out ad e h0; omega⟩, hp1, fun _ => by rw [HS0.out], fun h => by omega⟩, X.keep (X.bel HAT2.out HB34.out) (fun x hx => hbl x (by have := hAT x hx; omega)), ?_⟩
        have h4 := Bl.step HB.out HB34.out
        refine ⟨?_, ?_, ?_, ?_, fun x hx => (hbl x (by omega)).trans (h4.block x hx)⟩
        · rw [← hwf]; exact h4.os
        · rw [← hwf]; exact h4.tape
        · rw [← hwf]; exact h4.output
        · rw [← hwf]; simpa using h4.size
      case measure => simp [intOfH]
    · have hj : lo + 1 < M.now.length := by have := HLO.out; omega
      obtain ⟨er, ev⟩ := readE_ok (M := M) hj
      have hl64 := Dv.ok64 HOK.out hj
      have hrd := X.read_to A M p wr ((lo + 1 : Nat) : Int) hat (WalkArith.wf_i64 (by omega))
      rw [er, ev] at hrd
      obtain ⟨S0, hS0⟩ : ∃ S, M.now.getD (lo + 1) [] = S := ⟨_, rfl⟩
      rw [hS0] at hrd hl64
      have HS0 := hid hS0
      have hsz := HB.out.size
      rw [show ((lo + 1 : Nat) : Int) = ((lo : Int) + 1) by omega] at hrd
      have hw0 : IntKind.i64.wrap (lo : Int) = (lo : Int) := IntWalk.i64_in _ (by omega)
      have hw1 : IntKind.i64.wrap ((lo : Int) + 1) = (lo : Int) + 1 := IntWalk.i64_in _ (by omega)
      clear hth hat hb hj er ev hS0
      go_wp2_with fail
      refine hrd.mono ?_
      rintro e w3 ⟨v, rfl, hv, hb3⟩
      have hlt := hv.lt
      obtain ⟨ao, cap, rfl, hbx⟩ := hv.bxC
      rw [hl64] at hlt hbx ⊢
      have hdc := decoded_to _ ao 64 cap S0 w3 (fun b hb => (hlt b hb).2) hbx (HL.out.below (Bl.step HB.out hb3))
      have HLT := hid hlt
      have HB3 := hid hb3
      clear hv hlt hbx hb3 hrd hl64
      go_wp2_with fail
      refine hdc.mono ?_
      rintro e w4 ⟨bo, bn, bc, rfl, hbx, hb4⟩
      obtain ⟨o0, n0, c0, o1, n1, c1, t0, x0, t1, x1, hK, hr0, hr1, hp0, hp1, hq0, hq1⟩ := HT.out
      have hTr := hK.lt (Nat.succ_pos _)
      have hb34 := Bl.step HB3.out hb4
      have hK4 := hK.below (Nat.succ_pos _) hb34
      have HIN := hid (show ∀ ad, bo = some ad → 0 < bn → wr.heap.size ≤ ad.block from fun ad e h0 => by subst e; exact (HLT.out _ (Bx.inC hbx h0)).1)
      have HRN := hid hbx.now
      have HG := hid (And.intro hr0 (And.intro hr1 (And.intro hp0 (And.intro hp1 (And.intro hq0 hq1)))))
      have HB34 := hid hb34
      have HK4 := hid hK4
      have d2 := hK4.cell 2 _ rfl
      have d3 := hK4.cell 3 _ rfl
      have f2 := hK4.fro 2 _ rfl
      have f3 := hK4.fro 3 _ rfl
      have hT4 : T < w4.heap.size := hK4.lt (Nat.succ_pos _)
      clear hbx hr0 hr1 hp0 hp1 hq0 hq1 hb34 hK4 hK hb4 hdc
      go_wp2_with fail
      obtain ⟨wf, hwf⟩ : ∃ wf, (w4.setCell ⟨T, 2, none⟩ (.int .i64 (recD S0).1)).setCell ⟨T, 3, none⟩ (.slice bo bn bc) = wf := ⟨_, rfl⟩
      rw [hwf]
      go_roundw
      case rel =>
        have hbl : ∀ x, x ≠ T → wf.heap[x]? = w4.heap[x]? := fun x hx => by
          rw [← hwf]
          exact (Below.heap_setCell _ ⟨T, 3, none⟩ _ x (by simp only; exact hx)).trans (Below.heap_setCell w4 ⟨T, 2, none⟩ _ x (by simp only; exact hx))
        have hAT := X.lt HAT.out
        obtain ⟨hr0, hr1, hp0, hp1, hq0, hq1⟩ := HG.out
        have kp : ∀ {o : Option Addr} {m c : Nat} {x : List Int}, Rd .u8 wr o m c x → (∀ ad, o = some ad → 0 < m → w.heap.size ≤ ad.block ∧ ad.block ≠ T) → Rd .u8 wf o m c x := fun h hp => (h.below HB34.out).stay fun ad e h0 => hbl _ (hp ad e h0).2
        have kn : Rd .u8 wf bo bn bc (recD S0).2 := HRN.out.stay fun ad e h0 => hbl _ (by have := HIN.out ad e h0; omega)
        refine ⟨2, .inr (.inr rfl), rfl, ⟨o0, n0, c0, bo, bn, bc, t0, x0, (recD S0).1, (recD S0).2, by rw [← hwf]; exact (HK4.out.set 2 (.int .i64 (recD S0).1) (by simp)).set 3 (.slice bo bn bc) (by simp), kp hr0 hp0, kn, hp0, fun ad e h0 => ⟨by have := HIN.out ad e h0; omega, by have := HIN.out ad e h0; omega⟩, fun _ => hq0 (by omega), fun _ => by rw [HS0.out]⟩, X.keep (X.bel HAT2.out HB34.out) (fun x hx => hbl x (by have := hAT x hx; omega)), ?_⟩
        have h4 := Bl.step HB.out HB34.out
        refine ⟨?_, ?_, ?_, ?_, fun x hx => (hbl x (by omega)).trans (h4.block x hx)⟩
        · rw [← hwf]; exact h4.os
        · rw [← hwf]; exact h4.tape
        · rw [← hwf]; exact h4.output
        · rw [← hwf]; simpa using h4.size
      case measure => simp [intOfH]
    · obtain ⟨o0, n0, c0, o1, n1, c1, t0, x0, t1, x1, hK, hr0, hr1, hp0, hp1, hq0, hq1⟩ := HT.out
      have q0 := hq0 (by omega)
      have q1 := hq1 (by omega)
      have b0 := recD_bd (M.now.getD lo [])
      have b1 := recD_bd (M.now.getD (lo + 1) [])
      rw [q0] at b0
      rw [q1] at b1
      rw [HZ0.out] at q0
      rw [HZ1.out] at q1
      simp only at b0 b1
      have d0 := hK.cell 0 _ rfl
      have d1 := hK.cell 1 _ rfl
      have d2 := hK.cell 2 _ rfl
      have d3 := hK.cell 3 _ rfl
      have hTr := hK.lt (Nat.succ_pos _)
      have hw0 : IntKind.i64.wrap (lo : Int) = (lo : Int) := IntWalk.i64_in _ (by omega)
      have hw1 : IntKind.i64.wrap ((lo : Int) + 1) = (lo : Int) + 1 := IntWalk.i64_in _ (by omega)
      have HQ := hid (And.intro q0 q1)
      have HG := hid (And.intro hr0 (And.intro hr1 (And.intro hp0 hp1)))
      have hsz := hb.size
      have fin : ∀ (t : Int) (o : Option Addr) (n c : Nat) (x : List Int) (held spare : Nat), Rd .u8 wr o n c x → (∀ ad, o = some ad → 0 < n → w.heap.size ≤ ad.block ∧ ad.block ≠ T) →
          ∀ wf, wf = wr.alloc (.cells #[.pointer (some p), .int .i64 t, .slice o n c, .int .i64 (held : Int), .int .i64 (spare : Int)] 55) →
          (∃ B : Nat → Prop, (∀ b, B b → w.heap.size ≤ b) ∧ SuC B p t x held spare ⟨wr.heap.size, 0, none⟩ wf) ∧ Below w.heap.size w wf := by
        rintro t o n c x held spare hr hp wf rfl
        have hBf := Bl.alloc (Bl.refl wr) (.cells #[.pointer (some p), .int .i64 t, .slice o n c, .int .i64 (held : Int), .int .i64 (spare : Int)] 55)
        have hVlt : ∀ ad, o = some ad → 0 < n → ad.block < wr.heap.size := fun ad e h0 => by
          have hlt := World.block_lt_of_cell? _ _ (hr.cell ad e 0 h0)
          have hbk : (ad.add 0).block = ad.block := by unfold Addr.add; split <;> rfl
          rwa [hbk] at hlt
        refine ⟨⟨fun x => x = wr.heap.size ∨ ∃ ad, o = some ad ∧ 0 < n ∧ x = ad.block, fun x hx => ?_, wr.heap.size, o, n, c, rfl, Blk.new wr _ _, hr.below hBf, .inl rfl, fun ad e h0 => ⟨.inr ⟨ad, e, h0, rfl⟩, by have := hVlt ad e h0; omega⟩, fun x hx => ?_⟩, Bl.step hb hBf⟩
        · rcases hx with rfl | ⟨ad, e, h0, rfl⟩
          · exact hsz
          · exact (hp ad e h0).1
        · rcases hx with rfl | ⟨ad, e, h0, rfl⟩
          · simp
          · have := hVlt ad e h0; have := hBf.size; omega
      have HF := hid fin
      clear hth hat hb hK hr0 hr1 hp0 hp1 hq0 hq1 q0 q1 fin
      by_cases hlt : t0 < t1
      · have hz : (t1 == 0) = false := by simp; omega
        clear b0 b1
        go_wp2_with fail
        go_ret2
        obtain ⟨⟨B, hB, hs⟩, hb⟩ := HF.out t1 o1 n1 c1 x1 (lo + 1) lo HG.out.2.1 HG.out.2.2.2 _ (by rw [Int.natCast_add])
        have h1 : (recD Z1).1 = t1 := by rw [HQ.out.2]
        have h2 : (recD Z1).2 = x1 := by rw [HQ.out.2]
        exact ⟨.one _ _ B (by rw [HQ.out.1, HQ.out.2]; exact hlt) hB (by rw [h1, h2]; exact hs), hb⟩
      · by_cases h0 : t0 = 0
        · subst h0
          go_wp2_with fail
          go_ret2
          exact ⟨.none _ (by rw [HQ.out.1, HQ.out.2]; simp only; omega) (by rw [HQ.out.1]), HB.out⟩
        · have hz : (t0 == 0) = false := by simpa using h0
          clear b0 b1
          go_wp2_with fail
          go_ret2
          obtain ⟨⟨B, hB, hs⟩, hb⟩ := HF.out t0 o0 n0 c0 x0 lo (lo + 1) HG.out.1 HG.out.2.2.1 _ (by rw [Int.natCast_add])
          have h1 : (recD Z0).1 = t0 := by rw [HQ.out.1]
          have h2 : (recD Z0).2 = x0 := by rw [HQ.out.1]
          exact ⟨.nought _ _ B (by rw [HQ.out.1, HQ.out.2]; simp only; omega) (by rw [HQ.out.1]; exact h0) hB (by rw [h1, h2]; exact hs), hb⟩
theorem suOpen_to (X : DevSpec) (A : Nat → Prop) (M : Dv) (p : Addr) (w : World) (lo : Nat) (b : List Int) (t : Int) (hat : X.At A M p w) (hh : SHas M.now lo b t) (hlo : lo + 2 ≤ M.now.length) (hL : Laid w) :
    Calls Tryd.prog 12 #[.pointer (some p), .int .i64 lo] w fun e w' => ∃ q B, e = .returned (.tuple #[.pointer (some q), .int .i64 0]) ∧ (∀ b, B b → w.heap.size ≤ b) ∧ SuAt B ⟨p, lo, b, t⟩ q w' ∧ Below w.heap.size w w' := by
  refine (open_core X A M p w lo hat hlo hL).mono ?_
  rintro e w' ⟨ho, hb⟩
  obtain ⟨a1, a2, a3, a4⟩ := hh
  have hp := pr_01 t
  rcases hp with h0 | h1
  · rw [h0] at a3 a4
    rw [Nat.add_zero] at a3
    rw [show 1 - 0 = 1 from rfl] at a4
    cases ho with
    | one _ q B h hB hs => rw [a3] at h; simp only at h; omega
    | nought _ q B h hn hB hs =>
      refine ⟨q, B, rfl, hB, ?_, hb⟩
      rw [a3] at hs
      show SuC B p t b (lo + pr t) (lo + (1 - pr t)) q w'
      rw [h0]
      exact hs
    | none _ h hn => rw [a3] at hn; simp only at hn; omega
  · have ht : t ≠ 1 := fun e => by rw [e] at h1; exact absurd h1 (by decide)
    rw [h1] at a3 a4
    rw [show 1 - 1 = 0 from rfl, Nat.add_zero] at a4
    cases ho with
    | one _ q B h hB hs =>
      refine ⟨q, B, rfl, hB, ?_, hb⟩
      rw [a3] at hs
      show SuC B p t b (lo + pr t) (lo + (1 - pr t)) q w'
      rw [h1]
      exact hs
    | nought _ q B h hn hB hs => rw [a3] at h; simp only at h; omega
    | none _ h hn => rw [a3] at h; simp only at h; omega
theorem suOpen_blank (X : DevSpec) (A : Nat → Prop) (M : Dv) (p : Addr) (w : World) (lo : Nat) (hat : X.At A M p w) (hz : M.now = List.replicate M.now.length zSec) (hlo : lo + 2 ≤ M.now.length) (hL : Laid w) :
    Calls Tryd.prog 12 #[.pointer (some p), .int .i64 lo] w fun e w' => e = .returned (.tuple #[.pointer none, .int .i64 11]) ∧ Below w.heap.size w w' := by
  refine (open_core X A M p w lo hat hlo hL).mono ?_
  rintro e w' ⟨ho, hb⟩
  have e0 : ∀ i, i < M.now.length → M.now.getD i [] = zSec := fun i hi => by
    rw [hz]
    simp [List.getD, hi]
  rw [e0 lo (by omega), e0 (lo + 1) (by omega)] at ho
  cases ho with
  | one _ q B h hB hs => omega
  | nought _ q B h hn hB hs => rw [recD_zero] at hn; exact absurd rfl hn
  | none _ h hn => exact ⟨rfl, hb⟩
end Go.Proofs.YtpfcopdckjedfaaDoor
