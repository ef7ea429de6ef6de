/- super: store: a record written to some sectors, and flushed. -/
import Derived.Test.YtpfcopdckjedfaaDoorSuD
namespace Go.Proofs.YtpfcopdckjedfaaDoor
open Go.RowKit
set_option linter.unusedVariables false
set_option maxRecDepth 100000

abbrev intOfR : Value → Int
  | .int _ x => x
  | _ => 0
/-- What store leaves of a device, and the error that it answers. -/
def stoM (E : Sec) : List Nat → Dv → Dv × Int
  | [], M => (M.flush, M.flushE)
  | i :: l, M => if M.writeE i 64 = 0 then stoM E l (M.write i E) else (M, M.writeE i 64)
theorem write_calls (M : Dv) (i : Int) (b : List Int) : (M.write i b).calls ≤ M.calls + 1 := by
  unfold Dv.write
  split
  · show M.calls + 1 ≤ M.calls + 1; omega
  · omega
theorem writeE_wf (M : Dv) (i : Int) (m : Nat) : (Lit.int .i64 (M.writeE i m)).wf = true := by
  unfold Dv.writeE
  split
  · decide
  · split
    · decide
    · split <;> decide

set_option maxHeartbeats 4000000 in
theorem store_to (X : DevSpec) (A : Nat → Prop) (M : Dv) (p : Addr) (t : Int) (ao : Option Addr) (n cap : Nat) (b : List Int) (so : Option Addr) (sn sc : Nat) (is : List Nat) (w : World) (hat : X.At A M p w) (h : Rd .u8 w ao n cap b) (hn : n ≤ 40) (q0 : -9223372036854775808 ≤ t) (q1 : t ≤ 9223372036854775807) (hs : Rd .i64 w so sn sc (is.map Int.ofNat)) (hA : ∀ ad, so = some ad → ¬ A ad.block) (hc : M.calls < 100000000) (hsn : sn ≤ 1000) (hL : Laid w) :
    Calls Tryd.prog 23 #[.agg #[.int .i64 t, .slice ao n cap], .pointer (some p), .slice so sn sc] w fun e w' => ∃ A', e = .returned (.int .i64 (stoM (recE t b) is M).2) ∧ (∀ b, A' b → A b ∨ w.heap.size ≤ b) ∧ X.At A' (stoM (recE t b) is M).1 p w' ∧ Wrs A w w' := by
  have HAT := hid hat
  have HR := hid h
  have HS := hid hs
  have HA := hid hA
  have hil : is.length = sn := by have := hs.len; simpa using this
  have HIL := hid hil
  have hsc := hs.cap63
  have hsl := hs.le
  have hbl := h.len
  obtain ⟨w0, hw0⟩ : ∃ w0, w.alloc (.cells #[.int .i64 t, .slice ao n cap] 52) = w0 := ⟨_, rfl⟩
  obtain ⟨r0, hr0⟩ : ∃ r0, w.heap.size = r0 := ⟨_, rfl⟩
  have hB0 : Below w.heap.size w w0 := by rw [← hw0]; exact Bl.alloc (Bl.refl w) _
  have hK0 : Cel w0 r0 [.int .i64 t, .slice ao n cap] := by rw [← hw0, ← hr0]; exact Cel.new w _ _
  have a0 := hK0.cell 0 _ rfl
  have a1 := hK0.cell 1 _ rfl
  have henc := encoded_to t ao n cap b w0 (h.below hB0) (by omega) q0 q1 (hL.below hB0)
  have HB0 := hid hB0
  have hs0 : w.heap.size ≤ w0.heap.size := hB0.size
  have HEL := hid (recE_len t (b := b) (by omega))
  obtain ⟨E, hE⟩ : ∃ E, recE t b = E := ⟨_, rfl⟩
  rw [hE] at henc HEL ⊢
  clear hat h hs hA hL hbl hil hB0 hK0 hE
  go_enter Tryd.func23, Tryd.ntmps23
  go_wp2_with fail
  refine henc.mono ?_
  rintro e w1 ⟨v, rfl, hv, hb1⟩
  obtain ⟨vo, vc, rfl, hrv⟩ := hv.rd
  have hb01 := HB0.out.trans (hb1.mono hs0)
  rw [HEL.out] at hrv hv
  have HV := hid (show ∀ ad, vo = some ad → w.heap.size ≤ ad.block ∧ ad.block < w1.heap.size from fun ad e => by have := hv.lt ad.block (by rw [e]; rfl); omega)
  have HRV := hid hrv
  have HW1 : Hid (Wrs A w w1) := hid (Wrs.of hb01)
  have HT1 := hid (X.bel HAT.out hb01)
  have HS1 := hid (HS.out.below hb01)
  have HN1 : Hid (∀ b, A b → b < w.heap.size) := hid (X.lt HAT.out)
  rw [HEL.out]
  clear hv hrv hb1 henc hb01 a0 a1
  go_wp2_with fail
  go_loopw [15] (fun i wr => ∃ (k : Nat) (A' : Nat → Prop) (M' : Dv), k ≤ sn ∧ i = .int .i64 k ∧ (∀ b, A' b → A b ∨ w.heap.size ≤ b) ∧ (∀ ad, so = some ad → ¬ A' ad.block) ∧ (∀ ad, vo = some ad → ¬ A' ad.block) ∧ X.At A' M' p wr ∧ M'.calls ≤ M.calls + k ∧ stoM E (is.drop k) M' = stoM E is M ∧ Wrs A w wr ∧ w1.heap.size ≤ wr.heap.size ∧ Rd .i64 wr so sn sc (is.map Int.ofNat) ∧ Rd .u8 wr vo 64 vc E) (fun i _ => sn - (intOfR i).toNat)
  case atStart => exact ⟨0, A, M, Nat.zero_le _, rfl, fun b hb => .inl hb, HA.out, fun ad e hb => by have := (HV.out ad e).1; have := HN1.out _ hb; omega, HT1.out, by omega, rfl, HW1.out, Nat.le_refl _, HS1.out, HRV.out⟩
  case round =>
    clear HW1 HT1 HS1 HRV
    obtain ⟨k, A1, M1, hk, rfl, g1, g2, g3, g4, g5, g6, g7, g8, g9, g10⟩ := hrel
    have G := hid (And.intro g1 (And.intro g2 (And.intro g3 (And.intro g4 (And.intro g5 (And.intro g6 (And.intro g7 (And.intro g8 (And.intro g9 g10)))))))))
    by_cases hlt : k < sn
    · obtain ⟨gb, go, rfl, hcell⟩ := g9.at (by omega)
      have hck := hcell k hlt
      obtain ⟨i, hi⟩ : ∃ i, is.getD k 0 = i := ⟨_, rfl⟩
      have hkl : k < is.length := by rw [HIL.out]; exact hlt
      have hgi : (is.map Int.ofNat).getD k 0 = (i : Int) := by rw [← hi]; simp [List.getD, hkl]
      have hwi : (Lit.int .i64 (i : Int)).wf = true := by
        rw [← hgi]
        exact g9.wf _ (g9.mem hlt)
      have hdr : is.drop k = i :: is.drop (k + 1) := by
        rw [List.drop_eq_getElem_cons hkl, ← hi]
        simp [List.getD, hkl]
      rw [hgi] at hck
      have hgb : gb < wr.heap.size := World.block_lt_of_cell? wr _ (hcell k hlt)
      have hw := X.write_to A1 M1 p wr (i : Int) vo 64 vc E g4 hwi g10 g3 (by omega)
      have HG6 : Hid ((if M1.writeE i 64 = 0 then stoM E (is.drop (k + 1)) (M1.write i E) else (M1, M1.writeE i 64)) = stoM E is M) := hid (by rw [← g6, hdr]; rfl)
      have HGB := hid hgb
      have hwf := writeE_wf M1 i 64
      have k0 : (0 : Int) ≤ (k : Int) := by omega
      have k1 : (k : Int) < (sn : Int) := by omega
      have kw : IntKind.i64.wrap ((k : Int) + 1) = (k : Int) + 1 := IntWalk.i64_in _ (by omega)
      clear g1 g2 g3 g4 g5 g6 g7 g8 g9 g10 hcell hi hgi hdr hkl hwi
      by_cases he : M1.writeE i 64 = 0
      · rw [he] at hw
        have HE := hid he
        clear he hwf
        go_wp2_with fail
        refine hw.mono ?_
        rintro e w2 ⟨A2, rfl, f1, f2, f3⟩
        have HF := hid (And.intro f1 (And.intro f2 f3))
        clear f1 f2 f3 hw hck
        go_wp2_with fail
        go_roundw
        case rel =>
          obtain ⟨g1, g2, g3, g4, g5, g6, g7, g8, g9, g10⟩ := G.out
          obtain ⟨f1, f2, f3⟩ := HF.out
          have hgb := HGB.out
          refine ⟨k + 1, A2, M1.write i E, by omega, by go_num, fun x hx => ?_, fun ad e hx => ?_, fun ad e hx => ?_, f2, ?_, ?_, g7.trans f3 g1, Nat.le_trans g8 f3.size, g9.wrs f3 g2, g10.wrs f3 g3⟩
          · rcases f1 x hx with h | h
            · exact g1 x h
            · have := g7.size; omega
          · rcases f1 _ hx with h | h
            · exact g2 ad e h
            · cases e; simp only at h; omega
          · rcases f1 _ hx with h | h
            · exact g3 ad e h
            · have := (HV.out ad e).2; omega
          · have := write_calls M1 i E; omega
          · rw [← HG6.out, if_pos HE.out]
        case measure => simp [intOfR]; omega
      · have HE := hid he
        have he' : (M1.writeE i 64 != 0) = true := by simpa using he
        clear he
        obtain ⟨er, her⟩ : ∃ er, M1.writeE i 64 = er := ⟨_, rfl⟩
        rw [her] at hw he' hwf
        have HER := hid her
        clear her
        go_wp2_with fail
        refine hw.mono ?_
        rintro e w2 ⟨A2, rfl, f1, f2, f3⟩
        have HF := hid (And.intro f1 (And.intro f2 f3))
        clear f1 f2 f3 hw hck
        go_wp2_with fail
        go_ret
        obtain ⟨g1, g2, g3, g4, g5, g6, g7, g8, g9, g10⟩ := G.out
        obtain ⟨f1, f2, f3⟩ := HF.out
        have h6 := HG6.out
        rw [if_neg HE.out] at h6
        rw [← h6]
        refine ⟨A2, by rw [HER.out]; rfl, fun x hx => ?_, ?_, g7.trans f3 g1⟩
        · rcases f1 x hx with h | h
          · exact g1 x h
          · have := g7.size; omega
        · have e : M1.write i E = M1 := by unfold Dv.write; rw [HEL.out, if_neg HE.out]
          rw [e] at f2
          exact f2
    · obtain rfl : k = sn := by omega
      have hfl := X.flush_to A1 M1 p wr g4 (by omega)
      have HG6 : Hid ((M1.flush, M1.flushE) = stoM E is M) := hid (by
        rw [← g6, List.drop_eq_nil_of_le (by rw [HIL.out]; exact Nat.le_refl _)]
        rfl)
      clear g1 g2 g3 g4 g5 g6 g7 g8 g9 g10 hlt
      go_wp2_with fail
      refine hfl.mono ?_
      rintro e w2 ⟨A2, rfl, f1, f2, f3⟩
      have HF := hid (And.intro f1 (And.intro f2 f3))
      clear f1 f2 f3 hfl
      go_wp2_with fail
      go_ret
      obtain ⟨g1, g2, g3, g4, g5, g6, g7, g8, g9, g10⟩ := G.out
      obtain ⟨f1, f2, f3⟩ := HF.out
      rw [← HG6.out]
      refine ⟨A2, rfl, fun x hx => ?_, f2, g7.trans f3 g1⟩
      rcases f1 x hx with h | h
      · exact g1 x h
      · have := g7.size; omega
end Go.Proofs.YtpfcopdckjedfaaDoor
