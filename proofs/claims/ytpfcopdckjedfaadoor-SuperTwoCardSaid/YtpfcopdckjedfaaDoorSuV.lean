/- super's laws: SuperSaves; over SuSpec. -/
import Derived.Test.YtpfcopdckjedfaaDoorSuB
import Derived.Test.YtpfcopdckjedfaaDoorRowsB
namespace Go.Proofs.YtpfcopdckjedfaaDoor
open Go.RowKit
set_option linter.unusedVariables false
abbrev intOfS : Value → Int
  | .int _ x => x
  | _ => 0

theorem Rd.ltb {k : IntKind} {w : World} {ao : Option Addr} {n cap : Nat} {xs : List Int} (h : Rd k w ao n cap xs) {ad : Addr} (e : ao = some ad) (h0 : 0 < n) : ad.block < w.heap.size := by
  have hlt := World.block_lt_of_cell? w _ (h.cell ad e 0 h0)
  have hbk : (ad.add 0).block = ad.block := by unfold Addr.add; split <;> rfl
  rwa [hbk] at hlt
/-- A text on a device, all well. -/
def SuSt (X : SuSpec) (B0 : Nat) (wr : World) (p q : Addr) (lo n K : Nat) (x : List Int) (t : Int) : Prop :=
  ∃ A B M, X.L wr ∧ 0 < B0 ∧ (∀ b, A b → B0 ≤ b) ∧ (∀ b, B b → B0 ≤ b) ∧ (∀ b, A b → ¬ B b) ∧ X.At A M p wr ∧ X.Su B ⟨p, lo, x, t⟩ q wr ∧ X.Has M.now lo x t ∧ M.still ∧ M.fuse = -1 ∧ M.calls ≤ K ∧ M.now.length = n
section
variable {X : SuSpec} {B0 : Nat} {w wr : World} {p q : Addr} {lo n K : Nat} {x : List Int} {t : Int}
theorem SuSt.bel (h : SuSt X B0 wr p q lo n K x t) (hb : Below wr.heap.size wr w) : SuSt X B0 w p q lo n K x t := by
  obtain ⟨A, B, M, hl, hz, h1, h2, h3, h4, h5, h6⟩ := h
  exact ⟨A, B, M, X.lb hl hb, hz, h1, h2, h3, X.bel h4 hb, X.sbel h5 hb, h6⟩
theorem SuSt.save (h : SuSt X B0 wr p q lo n K x t) (hB : B0 ≤ wr.heap.size) {ao : Option Addr} {m cap : Nat} {b : List Int} (hr : Rd .u8 wr ao m cap b) (hlt : ∀ ad, ao = some ad → 0 < m → ad.block < B0) (hm : m ≤ 40) (ht : 0 < t) (ht2 : t < 1000000000) (hK : K < 100000000) (hn : lo + 2 ≤ n) :
    Calls Tryd.prog 11 #[.pointer (some q), .slice ao m cap] wr fun e w' => e = .returned (.int .i64 0) ∧ SuSt X B0 w' p q lo n (K + 10) b (t + 1) ∧ Below B0 wr w' := by
  obtain ⟨A, B, M, hl, hz, h1, h2, h3, h4, h5, h6, h7, h8, h9, h10⟩ := h
  refine (X.save_to A B M ⟨p, lo, x, t⟩ q wr ao m cap b h4 h5 h3 hr (fun ad e h0 => ⟨fun hh => by have := hlt ad e h0; have := h1 _ hh; omega, fun hh => by have := hlt ad e h0; have := h2 _ hh; omega⟩) h7 h6 ht ht2 (by omega) hm (by rw [h10]; exact hn) (hl)).mono ?_
  rintro e w' ⟨A', B', M', E, s', rfl, g1, g2, g3, g4, g5, g6, g7, g8, g9, g10⟩
  have hbel : Below B0 wr w' := g6.below (fun b hb => by rcases hb with hb | hb; exact h1 b hb; exact h2 b hb) hB
  cases g7 with
  | bad E hE hwf hf hx => exact absurd h8 hf
  | good hh hs ho => exact ⟨rfl, ⟨A', B', M', X.lbel hl hbel hz, hz, fun b hb => by rcases g1 b hb with hb | hb; exact h1 b hb; omega, fun b hb => by rcases g2 b hb with hb | hb; exact h2 b hb; omega, g3, g4, g5, hh, hs, g8 h8, by omega, g10.trans h10⟩, hbel⟩
theorem SuSt.long (h : SuSt X B0 wr p q lo n K x t) (hB : B0 ≤ wr.heap.size) {ao : Option Addr} {m cap : Nat} {b : List Int} (hr : Rd .u8 wr ao m cap b) (hm : 40 < m) :
    Calls Tryd.prog 11 #[.pointer (some q), .slice ao m cap] wr fun e w' => e = .returned (.int .i64 1) ∧ SuSt X B0 w' p q lo n (K + 10) x t ∧ Below B0 wr w' := by
  have h0 := h
  obtain ⟨A, B, M, hl, hz, h1, h2, h3, h4, h5, h6, h7, h8, h9, h10⟩ := h
  refine (X.save_long A B M ⟨p, lo, x, t⟩ q wr ao m cap b h4 h5 hr hm).mono ?_
  rintro e w' ⟨rfl, hb⟩
  exact ⟨rfl, ⟨A, B, M, X.lb hl hb, hz, h1, h2, h3, X.bel h4 hb, X.sbel h5 hb, h6, h7, h8, by omega, h10⟩, hb.mono hB⟩
theorem SuSt.opens (h : SuSt X B0 wr p q lo n K x t) (hn : lo + 2 ≤ n) :
    Calls Tryd.prog 12 #[.pointer (some p), .int .i64 (lo : Int)] wr fun e w' => ∃ u B, e = .returned (.tuple #[.pointer (some u), .int .i64 0]) ∧ X.Su B ⟨p, lo, x, t⟩ u w' ∧ Below wr.heap.size wr w' := by
  obtain ⟨A, B, M, hl, hz, h1, h2, h3, h4, h5, h6, h7, h8, h9, h10⟩ := h
  refine (X.open_to A M p wr lo x t h4 h6 (by rw [h10]; exact hn) (hl)).mono ?_
  rintro e w' ⟨u, Bu, rfl, _, hs, hb⟩
  exact ⟨u, Bu, rfl, hs, hb⟩
theorem SuSt.crashes (h : SuSt X B0 wr p q lo n K x t) :
    Calls Tryd.prog 13 #[.pointer (some p), .slice none 0 0] wr fun e w' => ∃ r A M, e = .returned (.pointer (some r)) ∧ X.At A M r w' ∧ X.Has M.now lo x t ∧ M.now.length = n ∧ Below wr.heap.size wr w' := by
  obtain ⟨A, B, M, hl, hz, h1, h2, h3, h4, h5, h6, h7, h8, h9, h10⟩ := h
  refine (X.crash_to A M p wr none 0 0 [] h4 (RdB.empty _)).mono ?_
  rintro e w' ⟨r, A', rfl, _, hat, hb⟩
  exact ⟨r, A', _, rfl, hat, by rw [h7.crash]; exact h6, (Dv.crash_len (X.ok h4) []).trans h10, hb⟩
theorem SuSt.loose (h : SuSt X B0 wr p q lo n K x t) :
    Calls Tryd.prog 16 #[.pointer (some p)] wr fun e w' => ∃ ao cap, e = .returned (.slice ao 0 cap) ∧ Below wr.heap.size wr w' := by
  obtain ⟨A, B, M, hl, hz, h1, h2, h3, h4, h5, h6, h7, h8, h9, h10⟩ := h
  refine (X.loose_to A M p wr h4).mono ?_
  rintro e w' ⟨v, rfl, hv, hb⟩
  obtain ⟨ao, cap, rfl, _⟩ := hv.rd
  have e0 : M.looses = [] := by unfold Dv.looses; rw [h7.2]; exact looses_none _ _
  rw [e0]
  exact ⟨ao, cap, rfl, hb⟩
theorem SuSt.su (h : SuSt X B0 wr p q lo n K x t) : ∃ B, X.Su B ⟨p, lo, x, t⟩ q wr := by
  obtain ⟨A, B, M, hl, hz, h1, h2, h3, h4, h5, _⟩ := h
  exact ⟨B, h5⟩
end

set_option maxRecDepth 100000 in
set_option maxHeartbeats 4000000 in
theorem superSaves_walk (X : SuSpec) (n at_ : Int) (lo_ : Option Addr) (ln lc : Nat) (L : List ByM) (w : World) (hn : (Lit.int .i64 n).wf = true) (ha : (Lit.int .i64 at_).wf = true) (hL : RdBB w lo_ ln lc L) (hl0 : X.L w) :
    Calls Tryd.prog 3 #[.int .i64 n, .int .i64 at_, .slice lo_ ln lc] w fun e w' => e = .returned (.bool true) ∧ Below w.heap.size w w' := by
  have HL := hid hL
  have HL0 := hid hl0
  clear hl0
  have HHA := hid ha
  have hlc := hL.cap63
  have hll := hL.le
  have hnb := bounds_i64 hn
  have hab := bounds_i64 ha
  obtain ⟨m, hm⟩ : ∃ m : Nat, max 1 (min n 8) = m := ⟨(max 1 (min n 8)).toNat, by omega⟩
  have hm8 : 1 ≤ m ∧ m ≤ 8 := by omega
  obtain ⟨n1, hn1⟩ : ∃ n1, min n 8 = n1 := ⟨_, rfl⟩
  rw [hn1] at hm
  have q1 : (if 8 < n then (8 : Int) else n) = n1 := by split <;> omega
  have q2 : (if 1 < n1 then n1 else (1 : Int)) = (m : Int) := by split <;> omega
  have HM := hid hm
  clear hL hn ha hn1 hm
  go_enter Tryd.func3, Tryd.ntmps3
  go_wp2_with fail
  refine (begun18_to X w HL0.out).mono ?_
  rintro e w1 ⟨rfl, hb⟩
  have HB := hid hb
  clear hb
  go_wp2_with fail
  refine (X.new_to m w1 (WalkArith.wf_i64 (by omega))).mono ?_
  rintro e w2 ⟨p, A, rfl, hA, hat, hb⟩
  have HA : Hid (∀ b, A b → w.heap.size ≤ b) := hid fun b hb => Nat.le_trans HB.out.size (hA b hb)
  have HT := hid hat
  have HNL : Hid ((Dv.new m).now.length = m) := hid (by simp [Dv.new, Dv.blank]; omega)
  replace HB := hid (Bl.step HB.out hb)
  clear hA hat hb
  go_wp2_with fail
  by_cases hr : at_ < 0 ∨ (m : Int) - 2 < at_
  · refine (X.make_far A (Dv.new m) p w2 at_ none 0 0 [] HT.out HHA.out (Rd.empty _ _) (by decide) (by rw [HNL.out]; exact hr)).mono ?_
    rintro e w3 ⟨rfl, hb⟩
    replace HB := hid (Bl.step HB.out hb)
    clear hb HT HA HNL HHA
    have hw2 : IntKind.i64.wrap ((m : Int) - 2) = (m : Int) - 2 := IntWalk.i64_in _ (by omega)
    rcases hr with h | h
    · go_wp2_with fail
      all_goals
        go_ret
        exact ⟨rfl, HB.out⟩
    · go_wp2_with fail
      all_goals
        go_ret
        exact ⟨rfl, HB.out⟩
  · obtain ⟨lo, rfl⟩ : ∃ lo : Nat, at_ = lo := ⟨at_.toNat, by omega⟩
    have hlo : lo + 2 ≤ m := by omega
    refine (X.make_to A (Dv.new m) p w2 lo none 0 0 [] HT.out (Rd.empty _ _) (fun ad e => by cases e) rfl (show (0 : Nat) < 100000000 by decide) (by decide) (by rw [HNL.out]; exact hlo) (X.lb HL0.out HB.out)).mono ?_
    rintro e w3 ⟨q, A3, B3, M3, rfl, hA3, hB3, hAB, hat, hsu, hw, hhas, hst, hfu, hca, hlen, _⟩
    have HS : Hid (SuSt X w.heap.size w3 p q lo m 10 [] 1) := hid ⟨A3, B3, M3, X.lb HL0.out (HB.out.trans (hw.below HA.out HB.out.size)), X.l0 HL0.out, fun b hb => by rcases hA3 b hb with h | h; exact HA.out b h; have := HB.out.size; omega, fun b hb => Nat.le_trans HB.out.size (hB3 b hb), hAB, hat, hsu, hhas, hst, hfu, by have e : (Dv.new m).calls = 0 := rfl; omega, hlen.trans HNL.out⟩
    replace HB := hid (HB.out.trans (hw.below HA.out HB.out.size))
    clear hA3 hB3 hAB hat hsu hw hhas hst hfu hca hlen HT HA HNL HHA
    have hw2 : IntKind.i64.wrap ((m : Int) - 2) = (m : Int) - 2 := IntWalk.i64_in _ (by omega)
    have hr1 : ¬ (lo : Int) < 0 := by omega
    have hr2 : ¬ (m : Int) - 2 < (lo : Int) := by omega
    clear hr
    go_wp2_with fail
    go_loopw [11, 12, 13] (fun s t i wr => ∃ (k tt : Nat) (x : List Int), k ≤ 12 ∧ k ≤ ln ∧ i = .int .i64 k ∧ s = .string (strOfNums x) ∧ t = .int .i64 tt ∧ 1 ≤ tt ∧ tt ≤ k + 1 ∧ SuSt X w.heap.size wr p q lo m (10 + 10 * k) x tt ∧ Below w.heap.size w wr) (fun _ _ i _ => 12 - (intOfS i).toNat)
    case atStart => exact ⟨0, 1, [], by omega, Nat.zero_le _, rfl, rfl, rfl, by omega, by omega, HS.out, HB.out⟩
    case round =>
      clear HS HB
      obtain ⟨k, tt, x, hk, hkl, rfl, rfl, rfl, ht1, ht2, hS, hW⟩ := hrel
      have HS := hid hS
      have HB := hid hW
      clear hS hW
      by_cases hlt : k < ln ∧ k < 12
      · obtain ⟨b, off, rfl, hc, hrd⟩ := (HL.out.below HB.out).cell k hlt.1
        obtain ⟨⟨ro, rn, rc, rl⟩, hR⟩ : ∃ R, L.getD k default = R := ⟨_, rfl⟩
        rw [hR] at hc hrd
        simp only at hc hrd
        obtain ⟨pn, hpn⟩ : ∃ pn, min rn 45 = pn := ⟨_, rfl⟩
        have HRD := hid (hrd.short 45)
        have hrc := hrd.cap63
        have hrl := hrd.le
        have sa := short_any ro rn rc 45 wr hrl hrc (by decide)
        obtain ⟨y, hy⟩ : ∃ y, rl.take (min rn 45) = y := ⟨_, rfl⟩
        rw [hy] at HRD
        rw [hpn] at sa HRD
        have hp45 : pn ≤ 45 := by omega
        have HLT : Hid (∀ ad, ro = some ad → 0 < pn → ad.block < w.heap.size) := hid fun ad e h0 => by
          obtain ⟨b', off', e', hc', hrd'⟩ := HL.out.cell k hlt.1
          rw [hR] at hrd'
          exact Rd.ltb hrd' e (show 0 < rn by omega)
        have k0 : (0 : Int) ≤ (k : Int) := by omega
        have k1 : (k : Int) < (ln : Int) := by omega
        have k2 : (k : Int) < 12 := by omega
        have kw : IntKind.i64.wrap ((k : Int) + 1) = (k : Int) + 1 := IntWalk.i64_in _ (by omega)
        have tw : IntKind.i64.wrap ((tt : Int) + 1) = (tt : Int) + 1 := IntWalk.i64_in _ (by omega)
        have HY := hid hy
        clear hrd hR hrc hrl hy hpn
        go_wp2_with fail
        refine sa.mono ?_
        rintro e _ ⟨rfl, rfl⟩
        clear sa hc
        go_wp2_with fail
        by_cases hp : pn ≤ 40
        · refine (HS.out.save HB.out.size HRD.out HLT.out hp (by omega) (by omega) (by omega) hlo).mono ?_
          rintro e wa ⟨rfl, hS, hb⟩
          have hcv := conv_str (P := Tryd.prog) (HRD.out.stay fun ad e h0 => by have := HLT.out ad e h0; exact hb.block _ this) 30 9 5 Tryd.underlying30 Tryd.underlying5 Tryd.underlying9
          replace HS := hid hS
          replace HB := hid (HB.out.trans hb)
          clear hS hb
          have p1 : (pn : Int) ≤ 40 := by omega
          go_wp2_with fail
          clear hcv
          refine (HS.out.opens hlo).mono ?_
          rintro e wb ⟨u, Bu, rfl, hsu, hb⟩
          have HU := hid hsu
          replace HS := hid (HS.out.bel hb)
          replace HB := hid (Bl.step HB.out hb)
          clear hsu hb
          go_wp2_with fail
          refine HS.out.crashes.mono ?_
          rintro e wc ⟨r, Ar, Mr, rfl, hat, hhas, hlen, hb⟩
          have HR := hid (And.intro hat (And.intro hhas hlen))
          replace HU := hid (X.sbel HU.out hb)
          replace HS := hid (HS.out.bel hb)
          replace HB := hid (Bl.step HB.out hb)
          clear hat hhas hlen hb
          go_wp2_with fail
          refine (X.open_to Ar Mr r wc lo y (tt + 1) HR.out.1 HR.out.2.1 (by rw [HR.out.2.2]; exact hlo) (X.lb HL0.out HB.out)).mono ?_
          rintro e wd ⟨u2, Bu2, rfl, _, hsu, hb⟩
          have HU2 := hid hsu
          replace HU := hid (X.sbel HU.out hb)
          replace HS := hid (HS.out.bel hb)
          replace HB := hid (Bl.step HB.out hb)
          clear hsu hb HR
          go_wp2_with fail
          refine (X.text_at HU.out).mono ?_
          rintro e we ⟨ao1, cap1, rfl, hrd, hb⟩
          have hcv := conv_str (P := Tryd.prog) hrd 30 9 5 Tryd.underlying30 Tryd.underlying5 Tryd.underlying9
          replace HU := hid (X.sbel HU.out hb)
          replace HU2 := hid (X.sbel HU2.out hb)
          replace HS := hid (HS.out.bel hb)
          replace HB := hid (Bl.step HB.out hb)
          clear hrd hb
          go_wp2_with fail
          refine (X.turn_at HU.out).mono ?_
          rintro e wf ⟨rfl, hb⟩
          replace HU2 := hid (X.sbel HU2.out hb)
          replace HS := hid (HS.out.bel hb)
          replace HB := hid (Bl.step HB.out hb)
          clear hb HU hcv
          go_wp2_with fail
          refine (X.text_at HU2.out).mono ?_
          rintro e wg ⟨ao2, cap2, rfl, hrd, hb⟩
          have hcv := conv_str (P := Tryd.prog) hrd 30 9 5 Tryd.underlying30 Tryd.underlying5 Tryd.underlying9
          replace HS := hid (HS.out.bel hb)
          replace HB := hid (Bl.step HB.out hb)
          clear hrd hb HU2
          go_wp2_with fail
          obtain ⟨Bq, hsq⟩ := HS.out.su
          have HQ := hid hsq
          clear hsq hcv
          refine (X.text_at HQ.out).mono ?_
          rintro e wh ⟨ao3, cap3, rfl, hrd, hb⟩
          have hcv := conv_str (P := Tryd.prog) hrd 30 9 5 Tryd.underlying30 Tryd.underlying5 Tryd.underlying9
          replace HQ := hid (X.sbel HQ.out hb)
          replace HS := hid (HS.out.bel hb)
          replace HB := hid (Bl.step HB.out hb)
          clear hrd hb
          go_wp2_with fail
          refine (X.turn_at HQ.out).mono ?_
          rintro e wi ⟨rfl, hb⟩
          replace HS := hid (HS.out.bel hb)
          replace HB := hid (Bl.step HB.out hb)
          clear hb HQ hcv
          go_wp2_with fail
          go_roundw
          case rel => exact ⟨k + 1, tt + 1, y, by omega, by omega, by go_num, rfl, by go_num, by omega, by omega, by rw [show 10 + 10 * (k + 1) = 10 + 10 * k + 10 by omega]; exact HS.out, HB.out⟩
          case measure => simp [intOfS]; omega
        · refine (HS.out.long HB.out.size HRD.out (by omega)).mono ?_
          rintro e wa ⟨rfl, hS, hb⟩
          replace HS := hid hS
          replace HB := hid (HB.out.trans hb)
          clear hS hb
          have p1 : ¬ (pn : Int) ≤ 40 := by omega
          go_wp2_with fail
          refine (HS.out.opens hlo).mono ?_
          rintro e wb ⟨u, Bu, rfl, hsu, hb⟩
          have HU := hid hsu
          replace HS := hid (HS.out.bel hb)
          replace HB := hid (Bl.step HB.out hb)
          clear hsu hb
          go_wp2_with fail
          refine HS.out.crashes.mono ?_
          rintro e wc ⟨r, Ar, Mr, rfl, hat, hhas, hlen, hb⟩
          have HR := hid (And.intro hat (And.intro hhas hlen))
          replace HU := hid (X.sbel HU.out hb)
          replace HS := hid (HS.out.bel hb)
          replace HB := hid (Bl.step HB.out hb)
          clear hat hhas hlen hb
          go_wp2_with fail
          refine (X.open_to Ar Mr r wc lo x tt HR.out.1 HR.out.2.1 (by rw [HR.out.2.2]; exact hlo) (X.lb HL0.out HB.out)).mono ?_
          rintro e wd ⟨u2, Bu2, rfl, _, hsu, hb⟩
          have HU2 := hid hsu
          replace HU := hid (X.sbel HU.out hb)
          replace HS := hid (HS.out.bel hb)
          replace HB := hid (Bl.step HB.out hb)
          clear hsu hb HR
          go_wp2_with fail
          refine (X.text_at HU.out).mono ?_
          rintro e we ⟨ao1, cap1, rfl, hrd, hb⟩
          have hcv := conv_str (P := Tryd.prog) hrd 30 9 5 Tryd.underlying30 Tryd.underlying5 Tryd.underlying9
          replace HU := hid (X.sbel HU.out hb)
          replace HU2 := hid (X.sbel HU2.out hb)
          replace HS := hid (HS.out.bel hb)
          replace HB := hid (Bl.step HB.out hb)
          clear hrd hb
          go_wp2_with fail
          refine (X.turn_at HU.out).mono ?_
          rintro e wf ⟨rfl, hb⟩
          replace HU2 := hid (X.sbel HU2.out hb)
          replace HS := hid (HS.out.bel hb)
          replace HB := hid (Bl.step HB.out hb)
          clear hb HU hcv
          go_wp2_with fail
          refine (X.text_at HU2.out).mono ?_
          rintro e wg ⟨ao2, cap2, rfl, hrd, hb⟩
          have hcv := conv_str (P := Tryd.prog) hrd 30 9 5 Tryd.underlying30 Tryd.underlying5 Tryd.underlying9
          replace HS := hid (HS.out.bel hb)
          replace HB := hid (Bl.step HB.out hb)
          clear hrd hb HU2
          go_wp2_with fail
          obtain ⟨Bq, hsq⟩ := HS.out.su
          have HQ := hid hsq
          clear hsq hcv
          refine (X.text_at HQ.out).mono ?_
          rintro e wh ⟨ao3, cap3, rfl, hrd, hb⟩
          have hcv := conv_str (P := Tryd.prog) hrd 30 9 5 Tryd.underlying30 Tryd.underlying5 Tryd.underlying9
          replace HQ := hid (X.sbel HQ.out hb)
          replace HS := hid (HS.out.bel hb)
          replace HB := hid (Bl.step HB.out hb)
          clear hrd hb
          go_wp2_with fail
          refine (X.turn_at HQ.out).mono ?_
          rintro e wi ⟨rfl, hb⟩
          replace HS := hid (HS.out.bel hb)
          replace HB := hid (Bl.step HB.out hb)
          clear hb HQ hcv
          go_wp2_with fail
          go_roundw
          case rel => exact ⟨k + 1, tt, x, by omega, by omega, by go_num, rfl, rfl, by omega, by omega, by rw [show 10 + 10 * (k + 1) = 10 + 10 * k + 10 by omega]; exact HS.out, HB.out⟩
          case measure => simp [intOfS]; omega
      · have hcase : ¬ (k < ln) ∨ (k < ln ∧ ¬ k < 12) := by omega
        rcases hcase with h1 | ⟨h1, h2⟩
        · have k1 : ¬ (k : Int) < (ln : Int) := by omega
          go_wp2_with fail
          refine HS.out.loose.mono ?_
          rintro e wl ⟨vo, vc, rfl, hb⟩
          replace HB := hid (Bl.step HB.out hb)
          clear hb HS
          go_wp2_with fail
          go_ret
          exact ⟨rfl, HB.out⟩
        · have k1 : (k : Int) < (ln : Int) := by omega
          have k2 : ¬ (k : Int) < 12 := by omega
          go_wp2_with fail
          refine HS.out.loose.mono ?_
          rintro e wl ⟨vo, vc, rfl, hb⟩
          replace HB := hid (Bl.step HB.out hb)
          clear hb HS
          go_wp2_with fail
          go_ret
          exact ⟨rfl, HB.out⟩
end Go.Proofs.YtpfcopdckjedfaaDoor
