/- CodeMany: the walk. -/
import Derived.Test.YtfambbpggodlkaaCodeBegun
import Derived.Test.YtfambbpggodlkaaCodeBody
import Derived.Test.YtfambbpggodlkaaCodeEq
import Derived.Test.YtfambbpggodlkaaCodeRefMatch
import Derived.Test.YtfambbpggodlkaaInsSlice
namespace Go.Proofs.Ytfambbpggodlkaa
open Go.RowKit

/-- A list's parts. -/
structure Pc where
  ao : Option Addr
  n : Nat
  cap : Nat
  is : List Ins
instance : Inhabited Pc := ⟨⟨none, 0, 0, []⟩⟩
/-- The block L holds so many lists. -/
def Lists (w : World) (L : Nat) (ps : List Pc) : Prop :=
  ∀ j, j < ps.length → w.cell? ⟨L, j, none⟩ = some (.slice (ps.getD j default).ao (ps.getD j default).n (ps.getD j default).cap) ∧ RdP w (fun _ => True) (ps.getD j default).ao (ps.getD j default).n (ps.getD j default).cap (ps.getD j default).is
theorem Lists.below {w w' : World} {L : Nat} {ps : List Pc} (h : Lists w L ps) (hb : Below w.heap.size w w') : Lists w' L ps := fun j hj => by
  obtain ⟨h1, h2⟩ := h j hj
  have hlt := World.block_lt_of_cell? w _ h1
  exact ⟨(hb.cell (p := ⟨L, j, none⟩) hlt).trans h1, h2.below hb⟩
def textB (p : Pc) : List Int := encMs p.is ++ [11]
def catB (ps : List Pc) : List Int := ps.flatMap textB
def goodB (p : Pc) : Prop := (fits (opsI p.is)).isSome = true ∧ p.is.length ≤ 30 ∧ ∀ I ∈ p.is, mayII I = true
theorem text_len {p : Pc} (h : goodB p) : (textB p).length ≤ 600100 := by
  have h1 := encMs_len p.is h.2.2
  have h2 : p.is.length * 20001 ≤ 30 * 20001 := Nat.mul_le_mul_right _ h.2.1
  simp [textB]
  omega
theorem cat_len : ∀ ps : List Pc, (∀ p ∈ ps, goodB p) → (catB ps).length ≤ ps.length * 600100
  | [], _ => by simp [catB]
  | p :: r, h => by
    have h1 := cat_len r (fun q hq => h q (by simp [hq]))
    have h2 := text_len (h p (by simp))
    simp only [catB, List.flatMap_cons, List.length_append, List.length_cons] at h1 ⊢
    omega
theorem take_pc {ps : List Pc} {k : Nat} (h : k < ps.length) : ps.take (k + 1) = ps.take k ++ [ps.getD k default] := by
  rw [List.take_succ_eq_append_getElem h]; simp [List.getD, h]
theorem drop_pc {ps : List Pc} {k : Nat} (h : k < ps.length) : ps.drop k = ps.getD k default :: ps.drop (k + 1) := by
  rw [List.drop_eq_getElem_cons h]; simp [List.getD, h]
theorem may_all {is : List Ins} (h : ∀ j, j < is.length → mayII (is.getD j default) = true) : ∀ I ∈ is, mayII I = true := by
  intro I hI
  obtain ⟨j, hj, rfl⟩ := List.getElem_of_mem hI
  have := h j hj
  simpa [List.getD, hj] using this

set_option maxRecDepth 100000 in
set_option maxHeartbeats 8000000 in
theorem codeMany_walk (a0 : Option Addr) (n0 c0 : Nat) (is0 : List Ins) (C0 : Addr → Prop) (a1 : Option Addr) (n1 c1 : Nat) (is1 : List Ins) (C1 : Addr → Prop) (a2 : Option Addr) (n2 c2 : Nat) (is2 : List Ins) (C2 : Addr → Prop) (w : World) (hr0 : RdP w C0 a0 n0 c0 is0) (hr1 : RdP w C1 a1 n1 c1 is1) (hr2 : RdP w C2 a2 n2 c2 is2) :
    Calls Try.prog 7 #[.slice a0 n0 c0, .slice a1 n1 c1, .slice a2 n2 c2] w fun e w' => e = .returned (.bool true) ∧ Below w.heap.size w w' := by
  have cutOk : ∀ (is : List Ins), (∀ I ∈ is, okI I) → ∀ I ∈ (is.take 30).map cutI, okI I := fun is h I hI => by
    obtain ⟨J, hJ, rfl⟩ := List.mem_map.1 hI
    exact cutI_ok (h J (List.mem_of_mem_take hJ))
  have cutLen : ∀ (is : List Ins), ((is.take 30).map cutI).length ≤ 30 := fun is => by simp; omega
  have HC0 := hid (cutOk is0 hr0.okAll)
  have HC1 := hid (cutOk is1 hr1.okAll)
  have HC2 := hid (cutOk is2 hr2.okAll)
  have HL0 := hid (cutLen is0)
  have HL1 := hid (cutLen is1)
  have HL2 := hid (cutLen is2)
  have R0 := hid hr0
  have R1 := hid hr1
  have R2 := hid hr2
  clear hr0 hr1 hr2 cutOk cutLen
  go_enter Try.func7, Try.ntmps7
  go_wp2_with fail
  refine (begun6_to _).mono ?_
  rintro e w0 ⟨rfl, hb⟩
  have HB0 := hid hb
  clear hb
  go_wp2_with fail
  refine (bodyN_to 30 30 rfl (by decide) C0 a0 n0 c0 is0 w0 (R0.out.below HB0.out)).mono ?_
  rintro e w1 ⟨v0, rfl, hown, hb⟩
  have HB1 := hid (Bl.step HB0.out hb)
  obtain ⟨x0, y0, rfl, hx0⟩ := hown.rd HC0.out
  obtain ⟨m0, hm0⟩ : ∃ m0, m0 = ((is0.take 30).map cutI).length := ⟨_, rfl⟩
  rw [← hm0] at hx0 HL0 ⊢
  have X0 := hid (hx0.weak (C' := fun _ => True) (fun _ _ => trivial))
  clear hown hb hx0 HB0 hm0 R0
  go_wp2_with fail
  refine (bodyN_to 30 30 rfl (by decide) C1 a1 n1 c1 is1 w1 (R1.out.below HB1.out)).mono ?_
  rintro e w2 ⟨v1, rfl, hown, hb⟩
  have HB2 := hid (Bl.step HB1.out hb)
  have X0 := hid (X0.out.below hb)
  obtain ⟨x1, y1, rfl, hx1⟩ := hown.rd HC1.out
  obtain ⟨m1, hm1⟩ : ∃ m1, m1 = ((is1.take 30).map cutI).length := ⟨_, rfl⟩
  rw [← hm1] at hx1 HL1 ⊢
  have X1 := hid (hx1.weak (C' := fun _ => True) (fun _ _ => trivial))
  clear hown hb hx1 HB1 hm1 R1
  go_wp2_with fail
  refine (bodyN_to 30 30 rfl (by decide) C2 a2 n2 c2 is2 w2 (R2.out.below HB2.out)).mono ?_
  rintro e w3 ⟨v2, rfl, hown, hb⟩
  have HB3 := hid (Bl.step HB2.out hb)
  have X0 := hid (X0.out.below hb)
  have X1 := hid (X1.out.below hb)
  obtain ⟨x2, y2, rfl, hx2⟩ := hown.rd HC2.out
  obtain ⟨m2, hm2⟩ : ∃ m2, m2 = ((is2.take 30).map cutI).length := ⟨_, rfl⟩
  rw [← hm2] at hx2 HL2 ⊢
  have X2 := hid (hx2.weak (C' := fun _ => True) (fun _ _ => trivial))
  clear hown hb hx2 HB2 hm2 R2
  obtain ⟨ps, hps⟩ : ∃ ps : List Pc, ps = [⟨x0, m0, y0, (is0.take 30).map cutI⟩, ⟨x1, m1, y1, (is1.take 30).map cutI⟩, ⟨x2, m2, y2, (is2.take 30).map cutI⟩] := ⟨_, rfl⟩
  have hab : Below w3.heap.size w3 (w3.alloc (.cells #[.slice x0 m0 y0, .slice x1 m1 y1, .slice x2 m2 y2] 22)) := Bl.alloc (Bl.refl w3) _
  have HLS : Hid (Lists (w3.alloc (.cells #[.slice x0 m0 y0, .slice x1 m1 y1, .slice x2 m2 y2] 22)) w3.heap.size ps) := hid (by
    subst hps
    intro j hj
    have h3 : j = 0 ∨ j = 1 ∨ j = 2 := by simp at hj; omega
    rcases h3 with rfl | rfl | rfl
    · exact ⟨by simp [World.cell?_alloc_at], X0.out.below hab⟩
    · exact ⟨by simp [World.cell?_alloc_at], X1.out.below hab⟩
    · exact ⟨by simp [World.cell?_alloc_at], X2.out.below hab⟩)
  have HPL : Hid (ps.length = 3) := hid (by rw [hps]; rfl)
  have HPN : Hid (∀ p ∈ ps, p.n ≤ 30 ∧ p.is.length ≤ 30) := hid (by
    intro p hp
    have l0 := X0.out.len
    have l1 := X1.out.len
    have l2 := X2.out.len
    rw [hps] at hp
    simp only [List.mem_cons, List.not_mem_nil, or_false] at hp
    have b0 := HL0.out
    have b1 := HL1.out
    have b2 := HL2.out
    rcases hp with rfl | rfl | rfl <;> simp only <;> omega)
  have HB4 := hid (Bl.step HB3.out hab)
  clear hab hps HB3 X0 X1 X2 HL0 HL1 HL2 HC0 HC1 HC2
  obtain ⟨L, hL⟩ : ∃ L, L = w3.heap.size := ⟨_, rfl⟩
  rw [← hL] at HLS
  have HLL := hid hL
  go_wp2_with fail
  rw [← HLL.out]
  clear hL HLL
  generalize w3.alloc (.cells #[.slice x0 m0 y0, .slice x1 m1 y1, .slice x2 m2 y2] 22) = w4 at HLS HB4 ⊢
  go_loopw [9, 10] (fun b i wr => ∃ k : Nat, k ≤ 3 ∧ i = .int .i64 k ∧ Own 5 .u8 w4.heap.size wr b (catB (ps.take k)) ∧ Hid (∀ p ∈ ps.take k, goodB p) ∧ Below w4.heap.size w4 wr) (fun _ i _ => 3 - (intOf i).toNat)
  case atStart => exact ⟨0, by omega, rfl, by simpa [catB] using Own.nil _ _ _ _, hid (fun p hp => by simp at hp), Below.refl _ _⟩
  case round =>
    obtain ⟨k, hk, rfl, ho, HGD, hb⟩ := hrel
    have HO := hid ho
    have HB := hid hb
    have hsz := hb.size
    clear ho hb
    by_cases hk3 : k < 3
    · have hkp : k < ps.length := by rw [HPL.out]; exact hk3
      obtain ⟨hc, hrd⟩ := (HLS.out.below HB.out) k hkp
      have htk := take_pc hkp
      have hmem : ps.getD k default ∈ ps := by
        simp only [List.getD, List.getElem?_eq_getElem hkp, Option.getD_some]
        exact List.getElem_mem hkp
      have hpn := HPN.out _ hmem
      have hcl := cat_len (ps.take k) HGD.out
      have hcl2 : (ps.take k).length ≤ 3 := by rw [List.length_take]; omega
      obtain ⟨⟨ao, n, cap, is⟩, hP⟩ : ∃ P, P = ps.getD k default := ⟨_, rfl⟩
      rw [← hP] at hc hrd htk hpn
      simp only at hc hrd hpn
      obtain ⟨ys, hys⟩ : ∃ ys, ys = catB (ps.take k) := ⟨_, rfl⟩
      rw [← hys] at HO hcl
      have hyl : ys.length ≤ 2000000 := by
        have : (ps.take k).length * 600100 ≤ 3 * 600100 := Nat.mul_le_mul_right _ hcl2
        omega
      have hlb := World.block_lt_of_cell? wr _ hc
      obtain ⟨hn30, hi30⟩ := hpn
      have HRD := hid hrd
      have HTK := hid htk
      have HYS := hid hys
      have hk3i : (k : Int) < 3 := by omega
      simp only at hlb
      clear hrd htk hmem hcl hcl2 hP hys hkp
      go_wp2_with fail
      refine (refMatch_to _ ao n cap is wr HRD.out (by omega)).mono ?_
      rintro e w5 ⟨v5, rfl, hv5, hb⟩
      obtain ⟨_, _, rfl, _, _, _⟩ := hv5.shape
      have hc5 := (hb.cell (p := ⟨L, k, none⟩) hlb).trans hc
      have hlb5 : L < w5.heap.size := Nat.lt_of_lt_of_le hlb hb.size
      have HRD5 := hid (HRD.out.below hb)
      have HO5 := hid (HO.out.below hb (Nat.le_refl _))
      have HB5 := hid (HB.out.trans (hb.mono hsz))
      have hsz5 := HB5.out.size
      obtain ⟨o, hfo⟩ : ∃ o, o = fits (opsI is) := ⟨_, rfl⟩
      rw [← hfo]
      have HF := hid hfo
      clear hv5 hb hc hlb HRD HO HB hfo hsz
      cases o with
      | none =>
        simp only [Option.isSome_none]
        go_wp2_with fail
        go_ret
        exact ⟨rfl, Bl.step HB4.out HB5.out⟩
      | some bl =>
        simp only [Option.isSome_some]
        obtain ⟨vb, hvb⟩ : ∃ vb, vb = (List.map (bkC 0) ((some bl).getD [])).length := ⟨_, rfl⟩
        rw [← hvb]
        clear hvb
        go_wp2_with fail
        go_loopw [13] (fun i wx => ∃ j : Nat, j ≤ n ∧ i = .int .i64 j ∧ Hid (∀ q, q < j → mayII (is.getD q default) = true) ∧ Below w5.heap.size w5 wx) (fun i _ => n - (intOf i).toNat)
        case atStart => exact ⟨0, Nat.zero_le _, rfl, hid (fun j hj => by omega), Below.refl _ _⟩
        case round =>
          obtain ⟨j, hj, rfl, HM, hb⟩ := hrel
          have HBX := hid hb
          have hcx := (hb.cell (p := ⟨L, k, none⟩) hlb5).trans hc5
          clear hb
          by_cases hjn : j < n
          · obtain ⟨b, off, lo, ln, lc, rfl, d0, d1, d2, d3, hrl, _⟩ := (HRD5.out.below HBX.out).cell j hjn
            obtain ⟨⟨op, p, q, l⟩, hI⟩ : ∃ I, I = is.getD j default := ⟨_, rfl⟩
            rw [← hI] at d0 d1 d2 hrl
            simp only at d0 d1 d2 hrl
            have Hrl := hid hrl
            have HI := hid hI
            obtain ⟨t, ht⟩ : ∃ t, mayI op p q l = t := ⟨_, rfl⟩
            have HTT := hid ht
            clear hI hrl ht
            go_wp2_with fail
            refine (mayInstr_to op p q lo ln lc l t HTT.out _ Hrl.out).mono ?_
            rintro e w6 ⟨rfl, hb⟩
            have HB6 := hid (Bl.step HBX.out hb)
            clear hb d0 d1 d2 d3 HBX Hrl
            cases t with
            | false =>
              go_wp2_with fail
              go_ret
              exact ⟨rfl, Bl.step HB4.out (HB5.out.trans (HB6.out.mono hsz5))⟩
            | true =>
              go_wp2_with fail
              go_roundw
              case rel =>
                refine ⟨j + 1, by omega, by go_num, hid (fun q hq => ?_), HB6.out⟩
                by_cases e : q = j
                · rw [e, ← HI.out]; exact HTT.out
                · exact HM.out q (by omega)
              case measure => simp [intOf]; omega
          · have hjj : j = n := by omega
            subst hjj
            have HRD6 := hid (HRD5.out.below HBX.out)
            have HMAY : Hid (∀ I ∈ is, mayII I = true) := hid (may_all (fun q hq => HM.out q (by rw [← HRD6.out.len]; exact hq)))
            have HO6 := hid (HO5.out.below HBX.out (Nat.le_refl _))
            have HB6 := hid (HB5.out.trans (HBX.out.mono hsz5))
            have hsz6 := HB6.out.size
            obtain ⟨yo, yc, rfl, hry⟩ := HO6.out.rd
            obtain ⟨yn, hyn⟩ : ∃ yn, yn = ys.length := ⟨_, rfl⟩
            rw [← hyn] at hry hyl ⊢
            have HRY := hid hry
            clear HM HO5 HB5 HBX HRD5 hry hyn HO6
            go_wp2_with fail
            refine (putBody_to yo yn yc ys _ ao j cap is wr HRY.out HRD6.out (by omega) (by omega) HMAY.out).mono ?_
            rintro e w7 ⟨v7, rfl, hv7, hb⟩
            have HB7 := hid (HB6.out.trans (hb.mono hsz6))
            have HV7 := hid (hv7.lift hsz6)
            clear hv7 hb
            go_wp2_with fail
            go_roundw
            case rel =>
              refine ⟨k + 1, by omega, by go_num, ?_, hid (fun p hp => ?_), HB7.out⟩
              · rw [HTK.out]
                have := HV7.out
                rw [HYS.out] at this
                simpa [catB, textB] using this
              · rw [HTK.out] at hp
                rcases List.mem_append.1 hp with hp | hp
                · exact HGD.out p hp
                · simp at hp
                  subst hp
                  exact ⟨by rw [← HF.out]; rfl, hi30, HMAY.out⟩
            case measure => simp [intOf]; omega
    · have hk33 : k = 3 := by omega
      subst hk33
      have h33 : ((3 : Nat) : Int) = 3 := rfl
      rw [h33]
      clear h33
      have hall : ps.take 3 = ps := List.take_of_length_le (by rw [HPL.out]; exact Nat.le_refl _)
      rw [hall] at HO HGD
      have hcl := cat_len ps HGD.out
      rw [HPL.out] at hcl
      obtain ⟨yo, yc, rfl, hry⟩ := HO.out.rd
      obtain ⟨yn, hyn⟩ : ∃ yn, yn = (catB ps).length := ⟨_, rfl⟩
      rw [← hyn] at hry hcl ⊢
      have HRY := hid hry
      have HLS2 := hid (HLS.out.below HB.out)
      have HB5 := hid (Bl.step HB4.out HB.out)
      clear hall hry hyn HO HLS HB4 HB hsz
      obtain ⟨W2, hW2⟩ : ∃ W2 : World, W2 = wr := ⟨_, rfl⟩
      subst hW2
      go_wp2_with fail
      go_loopw [9, 14] (fun b i wr => ∃ (k : Nat) (bo : Option Addr) (bn bc : Nat), k ≤ 3 ∧ i = .int .i64 k ∧ b = .slice bo bn bc ∧ Rd .u8 wr bo bn bc (catB (ps.drop k)) ∧ Below W2.heap.size W2 wr) (fun _ i _ => 3 - (intOf i).toNat)
      case atStart => exact ⟨0, yo, yn, yc, by omega, rfl, rfl, by simpa using HRY.out, Below.refl _ _⟩
      case round =>
        obtain ⟨k, bo, bn, bc, hk, rfl, rfl, hrd, hb⟩ := hrel
        have HRD := hid hrd
        have HB := hid hb
        have HLS3 := hid (HLS2.out.below hb)
        clear hrd hb
        by_cases hk3 : k < 3
        · have hkp : k < ps.length := by rw [HPL.out]; exact hk3
          have hdr := drop_pc hkp
          have hmem : ps.getD k default ∈ ps := by
            simp only [List.getD, List.getElem?_eq_getElem hkp, Option.getD_some]
            exact List.getElem_mem hkp
          have hgd := HGD.out _ hmem
          have hokA := ((HLS3.out) k hkp).2.okAll
          obtain ⟨P, hP⟩ : ∃ P, P = ps.getD k default := ⟨_, rfl⟩
          rw [← hP] at hdr hgd hokA
          obtain ⟨bl, hbl⟩ := Option.isSome_iff_exists.1 hgd.1
          have hge := getB_enc (catB (ps.drop (k + 1))) hbl hgd.2.2 hokA
          have hcat : catB (ps.drop k) = encMs P.is ++ [11] ++ catB (ps.drop (k + 1)) := by rw [hdr]; simp [catB, textB]
          rw [← hcat] at hge
          obtain ⟨el, hel⟩ : ∃ el, el = (encMs P.is).length + 1 := ⟨_, rfl⟩
          rw [← hel] at hge
          have hget := getB_to bo bn bc _ wr HRD.out
          rw [hge] at hget
          have HGT := hid hget
          have hbn : bn = el + (catB (ps.drop (k + 1))).length := by
            have h1 := HRD.out.len
            rw [hcat] at h1
            simp at h1
            omega
          have hcr := HRD.out.cut el bn (by omega) (Nat.le_refl _)
          have hdd : ((catB (ps.drop k)).take bn).drop el = catB (ps.drop (k + 1)) := by
            rw [List.take_of_length_le (by rw [HRD.out.len]; exact Nat.le_refl _), hcat, List.drop_left' (by rw [hel]; simp)]
          rw [hdd] at hcr
          have hbc63 := HRD.out.cap63
          have hbcle := HRD.out.le
          have helb : el ≤ bn := by omega
          have hcut := run_cut_l 41 elem_b size_b bo bn bc (el : Int) el rfl helb
          obtain ⟨co, hco⟩ : ∃ co, co = cutAt bo el bc := ⟨_, rfl⟩
          obtain ⟨cn, hcn⟩ : ∃ cn, cn = bn - el := ⟨_, rfl⟩
          obtain ⟨cc, hcc⟩ : ∃ cc, cc = bc - el := ⟨_, rfl⟩
          rw [← hco, ← hcn, ← hcc] at hcr hcut
          have HCR := hid hcr
          have HP := hid hP
          have hPl : P.is.length ≤ 30 := hgd.2.1
          have hgt : ¬ ((bn : Int) < (el : Int)) := by omega
          have HCUT := hid hcut
          clear hdr hmem hgd hokA hP hbl hge hcat hel hget hbn hcr hdd hco hcn hcc hcut
          go_wp2_with fail
          refine HGT.out.mono ?_
          rintro e w8 ⟨v8, rfl, hx, hok, _, hb⟩
          simp only at hx hok ⊢
          obtain ⟨xo, xc, rfl, hrx⟩ := hx.rd hok
          obtain ⟨xn, hxn⟩ : ∃ xn, xn = P.is.length := ⟨_, rfl⟩
          rw [← hxn] at hrx ⊢
          have HX := hid hrx
          obtain ⟨hc, hrdp⟩ := (HLS3.out.below hb) k hkp
          rw [← HP.out] at hc hrdp
          obtain ⟨ao, n, cap, is⟩ := P
          simp only at hc hrdp HX
          have HRP := hid hrdp
          have HB8 := hid (Bl.step HB.out hb)
          have HCR8 := hid (HCR.out.below hb)
          have hk3i : (k : Int) < 3 := by omega
          clear hx hok hrx hb hrdp hxn HCR HB HLS3 HGT hkp
          go_wp2_with fail
          refine (eqBody_to _ _ xo ao xn n xc cap is w8 HX.out HRP.out).mono ?_
          rintro e w9 ⟨rfl, hb⟩
          have HB9 := hid (Bl.step HB8.out hb)
          have HCR9 := hid (HCR8.out.below hb)
          have hcut := HCUT.out
          clear hb hc
          go_wp2_with fail
          go_roundw
          case rel => exact ⟨k + 1, co, cn, cc, by omega, by go_num, rfl, HCR9.out, HB9.out⟩
          case measure => simp [intOf]; omega
        · have hk33 : k = 3 := by omega
          subst hk33
          have hd : ps.drop 3 = [] := List.drop_eq_nil_of_le (by rw [HPL.out]; exact Nat.le_refl _)
          rw [hd] at HRD
          have hz : bn = 0 := HRD.out.len.symm
          subst hz
          go_wp2_with fail
          go_ret
          exact ⟨rfl, Bl.step HB5.out HB.out⟩
end Go.Proofs.Ytfambbpggodlkaa
