/- super's laws: SuperTwo; over SuSpec. -/
import Derived.Test.YtpfcopdckjedfaaDoorSuV
namespace Go.Proofs.YtpfcopdckjedfaaDoor
open Go.RowKit
set_option linter.unusedVariables false
theorem elem_b18 : Tryd.prog.underlying 30 = some (.slice (Tryd.prog.elem 30)) := by kernel_rfl
theorem size_b18 (w : World) : (sizeOf (Tryd.prog.elem 30)).run Tryd.prog w = .ok 1 w := by kernel_rfl

theorem RdB.at18 {w : World} {ao : Option Addr} {n cap : Nat} {xs : List Bool} (h : RdB w ao n cap xs) (hp : 0 < n) : ∃ b off, ao = some ⟨b, off, none⟩ ∧ ∀ i, i < n → w.cell? ⟨b, off + i, none⟩ = some (.bool (xs.getD i false)) := by
  cases ao with
  | none => have := h.nil rfl; have := h.le; omega
  | some ad =>
    obtain ⟨b, off, spot⟩ := ad
    have hspot : spot = none := by simpa [Addr.add] using World.cell?_spot (h.cell _ rfl 0 hp)
    subst hspot
    exact ⟨b, off, rfl, fun j hj => by rw [← Go.WideShapes.add_plain]; exact h.cell _ rfl j hj⟩
/-- A sector that begins with these bytes, else noughts. -/
def secOf (l : List Int) : Sec := l ++ List.replicate (64 - l.length) 0
/-- Two texts side by side on a device, all well. -/
def TwSt (X : SuSpec) (B0 : Nat) (wr : World) (p q r : Addr) (K : Nat) (a : List Int) (n : Int) (b : List Int) (m : Int) : Prop :=
  ∃ A B C M, X.L wr ∧ 0 < B0 ∧ (∀ x, A x → B0 ≤ x) ∧ (∀ x, B x → B0 ≤ x) ∧ (∀ x, C x → B0 ≤ x) ∧ (∀ x, A x → ¬ B x) ∧ (∀ x, A x → ¬ C x) ∧ (∀ x, B x → ¬ C x) ∧ X.At A M p wr ∧ X.Su B ⟨p, 1, a, n⟩ q wr ∧ X.Su C ⟨p, 3, b, m⟩ r wr ∧
    X.Has M.now 1 a n ∧ X.Has M.now 3 b m ∧ M.still ∧ M.fuse = -1 ∧ M.calls ≤ K ∧ M.now.length = 6 ∧ M.now.getD 0 [] = secOf [108, 101, 102, 116] ∧ M.now.getD 5 [] = secOf [114, 105, 103, 104, 116]
section
variable {X : SuSpec} {B0 : Nat} {w wr : World} {p q r : Addr} {K : Nat} {a b : List Int} {n m : Int}
theorem TwSt.saveA (h : TwSt X B0 wr p q r K a n b m) (hB : B0 ≤ wr.heap.size) {ao : Option Addr} {l cap : Nat} {y : List Int} (hr : Rd .u8 wr ao l cap y) (hlt : ∀ ad, ao = some ad → 0 < l → ad.block < B0) (hm : l ≤ 40) (ht : 0 < n) (ht2 : n < 1000000000) (hK : K < 100000000) :
    Calls Tryd.prog 11 #[.pointer (some q), .slice ao l cap] wr fun e w' => e = .returned (.int .i64 0) ∧ TwSt X B0 w' p q r (K + 10) y (n + 1) b m ∧ Below B0 wr w' := by
  obtain ⟨A, B, C, M, hl, hz, h1, h2, h3, dAB, dAC, dBC, h4, h5, h5', h6, h6', h7, h8, h9, h10, h11, h12⟩ := h
  refine (X.save_to A B M ⟨p, 1, a, n⟩ q wr ao l cap y h4 h5 dAB hr (fun ad e h0 => ⟨fun hh => by have := hlt ad e h0; have := h1 _ hh; omega, fun hh => by have := hlt ad e h0; have := h2 _ hh; omega⟩) h7 h6 ht ht2 (by omega) hm (by rw [h10]; show 1 + 2 ≤ 6; decide) (hl)).mono ?_
  rintro e w' ⟨A', B', M', E, s', rfl, g1, g2, g3, g4, g5, g6, g7, g8, g9, g10⟩
  have hbel : Below B0 wr w' := g6.below (fun b hb => by rcases hb with hb | hb; exact h1 b hb; exact h2 b hb) hB
  cases g7 with
  | bad E hE hwf hf hx => exact absurd h8 hf
  | good hh hs ho =>
    replace ho : ∀ i, i ≠ 1 → i ≠ 1 + 1 → M'.now.getD i [] = M.now.getD i [] := ho
    refine ⟨rfl, ⟨A', B', C, M', X.lbel hl hbel hz, hz, fun b hb => by rcases g1 b hb with hb | hb; exact h1 b hb; omega, fun b hb => by rcases g2 b hb with hb | hb; exact h2 b hb; omega, h3, g3, fun b hb hc => ?_, fun b hb hc => ?_, g4, g5, X.swrs h5' g6 (fun b hc hab => by rcases hab with hb | hb; exact dAC b hb hc; exact dBC b hb hc), hh, X.loc g10 (ho 3 (by decide) (by decide)) (ho 4 (by decide) (by decide)) h6', hs, g8 h8, by omega, g10.trans h10, (ho 0 (by decide) (by decide)).trans h11, (ho 5 (by decide) (by decide)).trans h12⟩, hbel⟩
    · rcases g1 b hb with hb | hb
      · exact dAC b hb hc
      · have := X.slt h5' b hc; omega
    · rcases g2 b hb with hb | hb
      · exact dBC b hb hc
      · have := X.slt h5' b hc; omega
theorem TwSt.saveB (h : TwSt X B0 wr p q r K a n b m) (hB : B0 ≤ wr.heap.size) {ao : Option Addr} {l cap : Nat} {y : List Int} (hr : Rd .u8 wr ao l cap y) (hlt : ∀ ad, ao = some ad → 0 < l → ad.block < B0) (hm : l ≤ 40) (ht : 0 < m) (ht2 : m < 1000000000) (hK : K < 100000000) :
    Calls Tryd.prog 11 #[.pointer (some r), .slice ao l cap] wr fun e w' => e = .returned (.int .i64 0) ∧ TwSt X B0 w' p q r (K + 10) a n y (m + 1) ∧ Below B0 wr w' := by
  obtain ⟨A, B, C, M, hl, hz, h1, h2, h3, dAB, dAC, dBC, h4, h5, h5', h6, h6', h7, h8, h9, h10, h11, h12⟩ := h
  refine (X.save_to A C M ⟨p, 3, b, m⟩ r wr ao l cap y h4 h5' dAC hr (fun ad e h0 => ⟨fun hh => by have := hlt ad e h0; have := h1 _ hh; omega, fun hh => by have := hlt ad e h0; have := h3 _ hh; omega⟩) h7 h6' ht ht2 (by omega) hm (by rw [h10]; show 3 + 2 ≤ 6; decide) (hl)).mono ?_
  rintro e w' ⟨A', C', M', E, s', rfl, g1, g2, g3, g4, g5, g6, g7, g8, g9, g10⟩
  have hbel : Below B0 wr w' := g6.below (fun b hb => by rcases hb with hb | hb; exact h1 b hb; exact h3 b hb) hB
  cases g7 with
  | bad E hE hwf hf hx => exact absurd h8 hf
  | good hh hs ho =>
    replace ho : ∀ i, i ≠ 3 → i ≠ 3 + 1 → M'.now.getD i [] = M.now.getD i [] := ho
    refine ⟨rfl, ⟨A', B, C', M', X.lbel hl hbel hz, hz, fun b hb => by rcases g1 b hb with hb | hb; exact h1 b hb; omega, h2, fun b hb => by rcases g2 b hb with hb | hb; exact h3 b hb; omega, fun b hb hc => ?_, g3, fun b hb hc => ?_, g4, X.swrs h5 g6 (fun b hc hab => by rcases hab with hb | hb; exact dAB b hb hc; exact dBC b hc hb), g5, X.loc g10 (ho 1 (by decide) (by decide)) (ho 2 (by decide) (by decide)) h6, hh, hs, g8 h8, by omega, g10.trans h10, (ho 0 (by decide) (by decide)).trans h11, (ho 5 (by decide) (by decide)).trans h12⟩, hbel⟩
    · rcases g1 b hb with hb | hb
      · exact dAB b hb hc
      · have := X.slt h5 b hc; omega
    · rcases g2 b hc with hc | hc
      · exact dBC b hb hc
      · have := X.slt h5 b hb; omega
theorem TwSt.crashes (h : TwSt X B0 wr p q r K a n b m) :
    Calls Tryd.prog 13 #[.pointer (some p), .slice none 0 0] wr fun e w' => ∃ u A M, e = .returned (.pointer (some u)) ∧ X.At A M u w' ∧ X.Has M.now 1 a n ∧ X.Has M.now 3 b m ∧ M.now.length = 6 ∧ M.now.getD 0 [] = secOf [108, 101, 102, 116] ∧ M.now.getD 5 [] = secOf [114, 105, 103, 104, 116] ∧ Below wr.heap.size wr w' := by
  obtain ⟨A, B, C, M, hl, hz, h1, h2, h3, dAB, dAC, dBC, h4, h5, h5', h6, h6', h7, h8, h9, h10, h11, h12⟩ := h
  refine (X.crash_to A M p wr none 0 0 [] h4 (RdB.empty _)).mono ?_
  rintro e w' ⟨u, A', rfl, _, hat, hb⟩
  have e1 := h7.crash []
  exact ⟨u, A', _, rfl, hat, by rw [e1]; exact h6, by rw [e1]; exact h6', by rw [e1]; exact h10, by rw [e1]; exact h11, by rw [e1]; exact h12, hb⟩
end

set_option maxRecDepth 100000 in
set_option maxHeartbeats 4000000 in
theorem superTwo_walk (X : SuSpec) (ao : Option Addr) (an ac : Nat) (xa : List Int) (bo : Option Addr) (bn bc : Nat) (xb : List Int) (so : Option Addr) (sn sc : Nat) (ss : List Bool) (w : World) (ha : Rd .u8 w ao an ac xa) (hb : Rd .u8 w bo bn bc xb) (hs : RdB w so sn sc ss) (hl0 : X.L w) :
    Calls Tryd.prog 6 #[.slice ao an ac, .slice bo bn bc, .slice so sn sc] w fun e w' => e = .returned (.bool true) ∧ Below w.heap.size w w' := by
  have kc := fun (w : World) (C : Array Value) (n c : Nat) => Lib.run_convert_bytes_const (P := Tryd.prog) w 30 5 C n c Tryd.underlying30 Tryd.underlying5
  have HRA := hid ha; have HRB := hid hb; have HSS := hid hs
  have HL0 := hid hl0
  clear hl0
  have ma := ha.cap63; have mb := hb.cap63; have ms := hs.cap63
  have la := ha.le; have lb := hb.le; have ls := hs.le
  clear ha hb hs
  by_cases hbig : 40 < an ∨ 40 < bn
  · have hcase : 40 < an ∨ (¬ 40 < an ∧ 40 < bn) := by omega
    rcases hcase with h1 | ⟨h1, h2⟩
    · have k1 : (40 : Int) < (an : Int) := by omega
      clear hbig h1
      go_enter Tryd.func6, Tryd.ntmps6
      go_wp2_with fail
      refine (begun18_to X w HL0.out).mono ?_
      rintro e w1 ⟨rfl, hb⟩
      have HB := hid hb
      clear hb
      go_wp2_with fail
      go_ret
      exact ⟨rfl, HB.out⟩
    · have k1 : ¬ (40 : Int) < (an : Int) := by omega
      have k2 : (40 : Int) < (bn : Int) := by omega
      clear hbig h1 h2
      go_enter Tryd.func6, Tryd.ntmps6
      go_wp2_with fail
      refine (begun18_to X w HL0.out).mono ?_
      rintro e w1 ⟨rfl, hb⟩
      have HB := hid hb
      clear hb
      go_wp2_with fail
      go_ret
      exact ⟨rfl, HB.out⟩
  have hxa : an ≤ 40 := by omega
  have hxb : bn ≤ 40 := by omega
  have k1 : ¬ (40 : Int) < (an : Int) := by omega
  have k2 : ¬ (40 : Int) < (bn : Int) := by omega
  have HLA : Hid (∀ ad, ao = some ad → 0 < an → ad.block < w.heap.size) := hid fun ad e h0 => HRA.out.ltb e h0
  have HLB : Hid (∀ ad, bo = some ad → 0 < bn → ad.block < w.heap.size) := hid fun ad e h0 => HRB.out.ltb e h0
  clear hbig
  go_enter Tryd.func6, Tryd.ntmps6
  go_wp2_with fail
  refine (begun18_to X w HL0.out).mono ?_
  rintro e w1 ⟨rfl, hb⟩
  have HB := hid hb
  clear hb
  go_wp2_with fail
  refine (X.new_to 6 w1 (by decide)).mono ?_
  rintro e w2 ⟨p, A, rfl, hA, hat, hb⟩
  have HA : Hid (∀ b, A b → w.heap.size ≤ b) := hid fun b hb => Nat.le_trans HB.out.size (hA b hb)
  have HT := hid hat
  replace HB := hid (Bl.step HB.out hb)
  clear hA hat hb
  go_wp2_with fail
  have hbl := (Bl.refl w2).alloc (Nat.le_refl _) (.cells #[.int .u8 108, .int .u8 101, .int .u8 102, .int .u8 116] 5 (4, 5))
  have hrd := Rd.builtAll w2 .u8 5 (4, 5) [108, 101, 102, 116] (by decide)
  refine (X.write_to A (Dv.new 6) p _ 0 _ 4 4 [108, 101, 102, 116] (X.bel HT.out hbl) (by decide) (hrd (by decide)) (fun ad e h => by cases e; have := X.lt HT.out _ h; simp at this) (by decide)).mono ?_
  rintro e w3 ⟨A3, rfl, hA3, hat, hw⟩
  have HA3 : Hid (∀ b, A3 b → w.heap.size ≤ b) := hid fun b hb => by rcases hA3 b hb with h | h; exact HA.out b h; have := hbl.size; have := HB.out.size; omega
  replace HB := hid ((HB.out.trans (hbl.mono HB.out.size)).trans (hw.below HA.out (Nat.le_trans HB.out.size hbl.size)))
  replace HT := hid hat
  obtain ⟨M3, hM3⟩ : ∃ M, (Dv.new 6).write 0 [108, 101, 102, 116] = M := ⟨_, rfl⟩
  have c3 : M3.calls = 1 := by rw [← hM3]; decide
  have HM3 := hid hM3
  rw [hM3] at HT
  clear hA3 hat hw hbl hrd HA hM3
  go_wp2_with fail
  have hbl := (Bl.refl w3).alloc (Nat.le_refl _) (.cells #[.int .u8 114, .int .u8 105, .int .u8 103, .int .u8 104, .int .u8 116] 5 (5, 6))
  have hrd := Rd.builtAll w3 .u8 5 (5, 6) [114, 105, 103, 104, 116] (by decide)
  refine (X.write_to A3 M3 p _ 5 _ 5 5 [114, 105, 103, 104, 116] (X.bel HT.out hbl) (by decide) (hrd (by decide)) (fun ad e h => by cases e; have := X.lt HT.out _ h; simp at this) (by rw [c3]; decide)).mono ?_
  rintro e w4 ⟨A4, rfl, hA4, hat, hw⟩
  have HA4 : Hid (∀ b, A4 b → w.heap.size ≤ b) := hid fun b hb => by rcases hA4 b hb with h | h; exact HA3.out b h; have := hbl.size; have := HB.out.size; omega
  replace HB := hid ((HB.out.trans (hbl.mono HB.out.size)).trans (hw.below HA3.out (Nat.le_trans HB.out.size hbl.size)))
  replace HT := hid hat
  obtain ⟨M4, hM4⟩ : ∃ M, M3.write 5 [114, 105, 103, 104, 116] = M := ⟨_, rfl⟩
  rw [hM4] at HT
  have HM4 : Hid (M4.calls = 2 ∧ M4.fuse = -1 ∧ M4.now.length = 6 ∧ M4.now.getD 0 [] = secOf [108, 101, 102, 116] ∧ M4.now.getD 5 [] = secOf [114, 105, 103, 104, 116]) := hid (by rw [← hM4, ← HM3.out]; decide)
  clear hA4 hat hw hbl hrd HA3 hM4 HM3 c3
  go_wp2_with fail
  refine (X.make_to A4 M4 p w4 1 ao an ac xa HT.out (HRA.out.below HB.out) (fun ad e h0 hh => by have := HLA.out ad e h0; have := HA4.out _ hh; omega) HM4.out.2.1 (by rw [HM4.out.1]; decide) hxa (by rw [HM4.out.2.2.1]; decide) (X.lb HL0.out HB.out)).mono ?_
  rintro e w5 ⟨q, A5, B5, M5, rfl, hA5, hB5, hAB, hat, hsu, hw, hhas, hst, hfu, hca, hlen, ho⟩
  have HA5 : Hid (∀ b, A5 b → w.heap.size ≤ b) := hid fun b hb => by rcases hA5 b hb with h | h; exact HA4.out b h; have := HB.out.size; omega
  have HB5 : Hid (∀ b, B5 b → w.heap.size ≤ b) := hid fun b hb => Nat.le_trans HB.out.size (hB5 b hb)
  have HM5 : Hid (M5.calls ≤ 12 ∧ M5.fuse = -1 ∧ M5.now.length = 6 ∧ M5.now.getD 0 [] = secOf [108, 101, 102, 116] ∧ M5.now.getD 5 [] = secOf [114, 105, 103, 104, 116]) := hid ⟨by have := HM4.out.1; omega, hfu, hlen.trans HM4.out.2.2.1, (ho 0 (by decide) (by decide)).trans HM4.out.2.2.2.1, (ho 5 (by decide) (by decide)).trans HM4.out.2.2.2.2⟩
  have HX5 := hid (And.intro hAB (And.intro hsu hhas))
  replace HB := hid (HB.out.trans (hw.below HA4.out HB.out.size))
  replace HT := hid hat
  clear hA5 hB5 hAB hat hsu hw hhas hst hfu hca hlen ho HA4 HM4
  go_wp2_with fail
  refine (X.make_to A5 M5 p w5 3 bo bn bc xb HT.out (HRB.out.below HB.out) (fun ad e h0 hh => by have := HLB.out ad e h0; have := HA5.out _ hh; omega) HM5.out.2.1 (by have := HM5.out.1; omega) hxb (by rw [HM5.out.2.2.1]; decide) (X.lb HL0.out HB.out)).mono ?_
  rintro e w6 ⟨r, A6, C6, M6, rfl, hA6, hC6, hAC, hat, hsu, hw, hhas, hst, hfu, hca, hlen, ho⟩
  have HS : Hid (TwSt X w.heap.size w6 p q r 22 xa 1 xb 1) := hid ⟨A6, B5, C6, M6, X.lb HL0.out (HB.out.trans (hw.below HA5.out HB.out.size)), X.l0 HL0.out, fun b hb => by rcases hA6 b hb with h | h; exact HA5.out b h; have := HB.out.size; omega, HB5.out, fun b hb => Nat.le_trans HB.out.size (hC6 b hb),
    fun b hb hc => by rcases hA6 b hb with h | h; exact HX5.out.1 b h hc; have := X.slt HX5.out.2.1 b hc; omega, hAC, fun b hb hc => by have := X.slt HX5.out.2.1 b hb; have := hC6 b hc; omega, hat, X.swrs HX5.out.2.1 hw (fun b hb ha => HX5.out.1 b ha hb), hsu, X.loc hlen (ho 1 (by decide) (by decide)) (ho 2 (by decide) (by decide)) HX5.out.2.2, hhas, hst, hfu, by have := HM5.out.1; omega, hlen.trans HM5.out.2.2.1, (ho 0 (by decide) (by decide)).trans HM5.out.2.2.2.1, (ho 5 (by decide) (by decide)).trans HM5.out.2.2.2.2⟩
  replace HB := hid (HB.out.trans (hw.below HA5.out HB.out.size))
  clear hA6 hC6 hAC hat hsu hw hhas hst hfu hca hlen ho HA5 HB5 HM5 HX5 HT kc
  go_wp2_with fail
  go_loopw [13, 14, 15] (fun s t i wr => ∃ (k : Nat) (n m : Int), k ≤ 10 ∧ k ≤ sn ∧ i = .int .i64 k ∧ s = .int .i64 n ∧ t = .int .i64 m ∧ 1 ≤ n ∧ n ≤ k + 1 ∧ 1 ≤ m ∧ m ≤ k + 1 ∧ TwSt X w.heap.size wr p q r (22 + 10 * k) xa n xb m ∧ Below w.heap.size w wr) (fun _ _ i _ => 10 - (intOfS i).toNat)
  case atStart => exact ⟨0, 1, 1, by omega, Nat.zero_le _, rfl, rfl, rfl, by omega, by omega, by omega, by omega, HS.out, HB.out⟩
  case round =>
    clear HS HB
    obtain ⟨k, n, m, hk, hkl, rfl, rfl, rfl, hn1, hn2, hm1, hm2, hS, hW⟩ := hrel
    have HS := hid hS
    have HB := hid hW
    clear hS hW
    have k0 : (0 : Int) ≤ (k : Int) := by omega
    by_cases hlt : k < sn ∧ k < 10
    · obtain ⟨sb, so', rfl, hc⟩ := (HSS.out.below HB.out).at18 (by omega)
      have hck := hc k hlt.1
      obtain ⟨y, hy⟩ : ∃ y, ss.getD k false = y := ⟨_, rfl⟩
      rw [hy] at hck
      have k3 : (k : Int) < (sn : Int) := by omega
      have k4 : (k : Int) < 10 := by omega
      have kw : IntKind.i64.wrap ((k : Int) + 1) = (k : Int) + 1 := IntWalk.i64_in _ (by omega)
      have nw : IntKind.i64.wrap (n + 1) = n + 1 := IntWalk.i64_in _ (by omega)
      have mw : IntKind.i64.wrap (m + 1) = m + 1 := IntWalk.i64_in _ (by omega)
      clear hc hy
      cases y with
      | true =>
          go_wp2_with fail
          clear hck
          refine (HS.out.saveA HB.out.size (HRA.out.below HB.out) HLA.out hxa (by omega) (by omega) (by omega)).mono ?_
          rintro e wa ⟨rfl, hS, hb⟩
          replace HS := hid hS
          replace HB := hid (HB.out.trans hb)
          clear hS hb
          go_wp2_with fail
          go_roundw
          case rel => exact ⟨k + 1, (n + 1), m, by omega, by omega, by go_num, by go_num, rfl, by omega, by omega, by omega, by omega, by rw [show 22 + 10 * (k + 1) = 22 + 10 * k + 10 by omega]; exact HS.out, HB.out⟩
          case measure => simp [intOfS]; omega
      | false =>
          go_wp2_with fail
          clear hck
          refine (HS.out.saveB HB.out.size (HRB.out.below HB.out) HLB.out hxb (by omega) (by omega) (by omega)).mono ?_
          rintro e wa ⟨rfl, hS, hb⟩
          replace HS := hid hS
          replace HB := hid (HB.out.trans hb)
          clear hS hb
          go_wp2_with fail
          go_roundw
          case rel => exact ⟨k + 1, n, (m + 1), by omega, by omega, by go_num, rfl, by go_num, by omega, by omega, by omega, by omega, by rw [show 22 + 10 * (k + 1) = 22 + 10 * k + 10 by omega]; exact HS.out, HB.out⟩
          case measure => simp [intOfS]; omega
    · have hcase : ¬ (k < sn) ∨ (k < sn ∧ ¬ k < 10) := by omega
      rcases hcase with h1 | ⟨h1, h2⟩
      · have k3 : ¬ (k : Int) < (sn : Int) := by omega
        clear hlt
        go_wp2_with fail
        refine HS.out.crashes.mono ?_
        rintro e wc ⟨rp, Ar, Mr, rfl, hat, hh1, hh2, hlen, h0, h5, hb⟩
        have HR := hid (And.intro hat (And.intro hh1 (And.intro hh2 (And.intro hlen (And.intro h0 h5)))))
        replace HB := hid (Bl.step HB.out hb)
        clear hat hh1 hh2 hlen h0 h5 hb HS
        go_wp2_with fail
        refine (X.open_to Ar Mr rp wc 1 xa n HR.out.1 HR.out.2.1 (by rw [HR.out.2.2.2.1]; decide) (X.lb HL0.out HB.out)).mono ?_
        rintro e wd ⟨xu, Bx, rfl, _, hsu, hb⟩
        have HXU := hid hsu
        have HT := hid (X.bel HR.out.1 hb)
        replace HB := hid (Bl.step HB.out hb)
        clear hsu hb
        go_wp2_with fail
        refine (X.open_to Ar Mr rp wd 3 xb m HT.out HR.out.2.2.1 (by rw [HR.out.2.2.2.1]; decide) (X.lb HL0.out HB.out)).mono ?_
        rintro e we ⟨yu, By, rfl, _, hsu, hb⟩
        have HYU := hid hsu
        replace HXU := hid (X.sbel HXU.out hb)
        replace HT := hid (X.bel HT.out hb)
        replace HB := hid (Bl.step HB.out hb)
        clear hsu hb
        go_wp2_with fail
        have eL : Mr.readE 0 = 0 ∧ Mr.read 0 = Mr.now.getD 0 [] := ⟨by unfold Dv.readE; rw [HR.out.2.2.2.1]; decide, rfl⟩
        refine (X.read_to Ar Mr rp we 0 HT.out (by decide)).mono ?_
        rintro e wf ⟨v, rfl, hv, hb⟩
        rw [eL.2, HR.out.2.2.2.2.1] at hv
        rw [eL.1]
        obtain ⟨lo, lc, rfl, hrd⟩ := hv.rd
        rw [show (secOf [108, 101, 102, 116]).length = 64 from rfl] at hrd ⊢
        have lc64 := hrd.le
        have HLD := hid (hrd.upto (i := 4) (by decide))
        rw [show (secOf [108, 101, 102, 116]).take 4 = [108, 101, 102, 116] from rfl] at HLD
        replace HXU := hid (X.sbel HXU.out hb)
        replace HYU := hid (X.sbel HYU.out hb)
        replace HT := hid (X.bel HT.out hb)
        replace HB := hid (Bl.step HB.out hb)
        clear hv hb hrd eL
        go_wp2_with fail
        have eR : Mr.readE 5 = 0 ∧ Mr.read 5 = Mr.now.getD 5 [] := ⟨by unfold Dv.readE; rw [HR.out.2.2.2.1]; decide, rfl⟩
        refine (X.read_to Ar Mr rp wf 5 HT.out (by decide)).mono ?_
        rintro e wg ⟨v, rfl, hv, hb⟩
        rw [eR.2, HR.out.2.2.2.2.2] at hv
        rw [eR.1]
        obtain ⟨ro, rc, rfl, hrd⟩ := hv.rd
        rw [show (secOf [114, 105, 103, 104, 116]).length = 64 from rfl] at hrd ⊢
        have rc64 := hrd.le
        have HRT := hid (hrd.upto (i := 5) (by decide))
        rw [show (secOf [114, 105, 103, 104, 116]).take 5 = [114, 105, 103, 104, 116] from rfl] at HRT
        replace HLD := hid (HLD.out.below hb)
        replace HXU := hid (X.sbel HXU.out hb)
        replace HYU := hid (X.sbel HYU.out hb)
        replace HB := hid (Bl.step HB.out hb)
        clear hv hb hrd eR HT HR
        go_wp2_with fail
        refine wp_region_below (by kernel_rfl) (Is (.pointer (some xu)) :: IsRd .u8 xa :: Is (.string (strOfNums xa)) :: Is (.slice ao an ac) :: Is (.string (strOfNums xa)) :: Is (.bool true) :: Is (.bool true) :: Is (.pointer (some xu)) :: Is (.int .i64 n) :: Is (.int .i64 n) :: Is (.bool true) :: Is (.bool true) :: Is (.bool true) :: Is (.pointer (some yu)) :: IsRd .u8 xb :: Is (.string (strOfNums xb)) :: Is (.slice bo bn bc) :: Is (.string (strOfNums xb)) :: Is (.bool true) :: Is (.bool true) :: Is (.bool true) :: Is (.pointer (some yu)) :: Is (.int .i64 m) :: Is (.int .i64 m) :: Is (.bool true) :: Is (.bool true) :: Is (.bool true) :: Is (.slice lo 64 lc) :: Is (.slice lo 4 lc) :: Is (.string ⟨#[108, 101, 102, 116]⟩) :: Is (.bool true) :: Is (.bool true) :: Is (.bool true) :: Is (.slice ro 64 rc) :: Is (.slice ro 5 rc) :: Is (.string ⟨#[114, 105, 103, 104, 116]⟩) :: Is (.bool true) :: Is (.bool true) :: Is (.bool true) :: []) _ rfl (by kernel_rfl) rfl ?hopt ?hstt ?hendt
        case hopt =>
          refine ⟨rq _ _ _ [(17, .pointer (some xu))] ⟨⟨by kernel_rfl, rfl⟩, trivial⟩ ?_, ?_⟩
          · intro a w1 hC e17
            refine Or.inl ⟨.pointer (some xu), ?_, rfl⟩
            go_simp
          refine ⟨rq _ _ _ [] trivial ?_, ?_⟩
          · intro a w1 hC  (h0 : a.tmps.getD 115 undef = _)
            refine Or.inr (Or.inl ⟨14, #[.pointer (some xu)], ?_, ?_⟩)
            · go_simp
            · refine (X.text_at (X.sbel HXU.out hC)).mono ?_
              rintro e w2 ⟨vo, vc, rfl, hrd, hbel⟩
              exact ⟨_, rfl, ⟨vo, vc, rfl, hrd⟩, hbel⟩
          refine ⟨rq _ _ _ [] trivial ?_, ?_⟩
          · intro a w1 hC  h1
            obtain ⟨ao1, cap1, e5, hrd⟩ := h1
            have e5 : a.tmps.getD 116 undef = _ := e5
            refine Or.inl ⟨.string (strOfNums xa), ?_, rfl⟩
            have hcv := conv_str (P := Tryd.prog) hrd 30 9 5 Tryd.underlying30 Tryd.underlying5 Tryd.underlying9
            go_simp
          refine ⟨rq _ _ _ [(0, .slice ao an ac)] ⟨⟨by kernel_rfl, rfl⟩, trivial⟩ ?_, ?_⟩
          · intro a w1 hC e0
            refine Or.inl ⟨.slice ao an ac, ?_, rfl⟩
            go_simp
          refine ⟨rq _ _ _ [] trivial ?_, ?_⟩
          · intro a w1 hC  (h3 : a.tmps.getD 118 undef = _)
            refine Or.inl ⟨.string (strOfNums xa), ?_, rfl⟩
            have hcv := conv_str (P := Tryd.prog) (HRA.out.below (Bl.step HB.out hC)) 30 9 5 Tryd.underlying30 Tryd.underlying5 Tryd.underlying9
            go_simp
          refine ⟨rq _ _ _ [] trivial ?_, ?_⟩
          · intro a w1 hC  (h2 : a.tmps.getD 117 undef = _) (h4 : a.tmps.getD 119 undef = _)
            refine Or.inl ⟨.bool true, ?_, rfl⟩
            go_simp
          refine ⟨rq _ _ _ [] trivial ?_, ?_⟩
          · intro a w1 hC  (h5 : a.tmps.getD 120 undef = _) h1
            refine Or.inl ⟨.bool true, ?_, rfl⟩
            go_simp
          refine ⟨rq _ _ _ [(17, .pointer (some xu))] ⟨⟨by kernel_rfl, rfl⟩, trivial⟩ ?_, ?_⟩
          · intro a w1 hC e17 (h6 : a.tmps.getD 121 undef = _)
            refine Or.inl ⟨h6, ?_⟩
            refine Or.inl ⟨.pointer (some xu), ?_, rfl⟩
            go_simp
          refine ⟨rq _ _ _ [] trivial ?_, ?_⟩
          · intro a w1 hC  (h7 : a.tmps.getD 122 undef = _) (h6 : a.tmps.getD 121 undef = _) _
            refine Or.inl ⟨h6, ?_⟩
            refine Or.inr (Or.inl ⟨15, #[.pointer (some xu)], ?_, ?_⟩)
            · go_simp
            · refine (X.turn_at (X.sbel HXU.out hC)).mono ?_
              rintro e w2 ⟨rfl, hbel⟩
              exact ⟨_, rfl, rfl, hbel⟩
          refine ⟨rq _ _ _ [(13, .int .i64 n)] ⟨⟨by kernel_rfl, rfl⟩, trivial⟩ ?_, ?_⟩
          · intro a w1 hC e13 (h6 : a.tmps.getD 121 undef = _)
            refine Or.inl ⟨h6, ?_⟩
            refine Or.inl ⟨.int .i64 n, ?_, rfl⟩
            go_simp
          refine ⟨rq _ _ _ [] trivial ?_, ?_⟩
          · intro a w1 hC  (h8 : a.tmps.getD 123 undef = _) (h9 : a.tmps.getD 124 undef = _) (h6 : a.tmps.getD 121 undef = _)
            refine Or.inl ⟨h6, ?_⟩
            refine Or.inl ⟨.bool true, ?_, rfl⟩
            go_simp
          refine ⟨rq _ _ _ [] trivial ?_, ?_⟩
          · intro a w1 hC  (h6 : a.tmps.getD 121 undef = _) (h10 : a.tmps.getD 125 undef = _)
            refine Or.inl ⟨.bool true, ?_, rfl⟩
            go_simp
          refine ⟨rq _ _ _ [] trivial ?_, ?_⟩
          · intro a w1 hC  (h11 : a.tmps.getD 126 undef = _) (h8 : a.tmps.getD 123 undef = _)
            refine Or.inl ⟨.bool true, ?_, rfl⟩
            go_simp
          refine ⟨rq _ _ _ [(18, .pointer (some yu))] ⟨⟨by kernel_rfl, rfl⟩, trivial⟩ ?_, ?_⟩
          · intro a w1 hC e18 (h12 : a.tmps.getD 127 undef = _)
            refine Or.inl ⟨h12, ?_⟩
            refine Or.inl ⟨.pointer (some yu), ?_, rfl⟩
            go_simp
          refine ⟨rq _ _ _ [] trivial ?_, ?_⟩
          · intro a w1 hC  (h13 : a.tmps.getD 128 undef = _) (h12 : a.tmps.getD 127 undef = _) _
            refine Or.inl ⟨h12, ?_⟩
            refine Or.inr (Or.inl ⟨14, #[.pointer (some yu)], ?_, ?_⟩)
            · go_simp
            · refine (X.text_at (X.sbel HYU.out hC)).mono ?_
              rintro e w2 ⟨vo, vc, rfl, hrd, hbel⟩
              exact ⟨_, rfl, ⟨vo, vc, rfl, hrd⟩, hbel⟩
          refine ⟨rq _ _ _ [] trivial ?_, ?_⟩
          · intro a w1 hC  h14 (h12 : a.tmps.getD 127 undef = _)
            refine Or.inl ⟨h12, ?_⟩
            obtain ⟨ao1, cap1, e5, hrd⟩ := h14
            have e5 : a.tmps.getD 129 undef = _ := e5
            refine Or.inl ⟨.string (strOfNums xb), ?_, rfl⟩
            have hcv := conv_str (P := Tryd.prog) hrd 30 9 5 Tryd.underlying30 Tryd.underlying5 Tryd.underlying9
            go_simp
          refine ⟨rq _ _ _ [(1, .slice bo bn bc)] ⟨⟨by kernel_rfl, rfl⟩, trivial⟩ ?_, ?_⟩
          · intro a w1 hC e1 (h12 : a.tmps.getD 127 undef = _)
            refine Or.inl ⟨h12, ?_⟩
            refine Or.inl ⟨.slice bo bn bc, ?_, rfl⟩
            go_simp
          refine ⟨rq _ _ _ [] trivial ?_, ?_⟩
          · intro a w1 hC  (h16 : a.tmps.getD 131 undef = _) (h12 : a.tmps.getD 127 undef = _)
            refine Or.inl ⟨h12, ?_⟩
            refine Or.inl ⟨.string (strOfNums xb), ?_, rfl⟩
            have hcv := conv_str (P := Tryd.prog) (HRB.out.below (Bl.step HB.out hC)) 30 9 5 Tryd.underlying30 Tryd.underlying5 Tryd.underlying9
            go_simp
          refine ⟨rq _ _ _ [] trivial ?_, ?_⟩
          · intro a w1 hC  (h15 : a.tmps.getD 130 undef = _) (h17 : a.tmps.getD 132 undef = _) (h12 : a.tmps.getD 127 undef = _)
            refine Or.inl ⟨h12, ?_⟩
            refine Or.inl ⟨.bool true, ?_, rfl⟩
            go_simp
          refine ⟨rq _ _ _ [] trivial ?_, ?_⟩
          · intro a w1 hC  (h12 : a.tmps.getD 127 undef = _) (h18 : a.tmps.getD 133 undef = _)
            refine Or.inl ⟨.bool true, ?_, rfl⟩
            go_simp
          refine ⟨rq _ _ _ [] trivial ?_, ?_⟩
          · intro a w1 hC  (h19 : a.tmps.getD 134 undef = _) h14
            refine Or.inl ⟨.bool true, ?_, rfl⟩
            go_simp
          refine ⟨rq _ _ _ [(18, .pointer (some yu))] ⟨⟨by kernel_rfl, rfl⟩, trivial⟩ ?_, ?_⟩
          · intro a w1 hC e18 (h20 : a.tmps.getD 135 undef = _)
            refine Or.inl ⟨h20, ?_⟩
            refine Or.inl ⟨.pointer (some yu), ?_, rfl⟩
            go_simp
          refine ⟨rq _ _ _ [] trivial ?_, ?_⟩
          · intro a w1 hC  (h21 : a.tmps.getD 136 undef = _) (h20 : a.tmps.getD 135 undef = _) _
            refine Or.inl ⟨h20, ?_⟩
            refine Or.inr (Or.inl ⟨15, #[.pointer (some yu)], ?_, ?_⟩)
            · go_simp
            · refine (X.turn_at (X.sbel HYU.out hC)).mono ?_
              rintro e w2 ⟨rfl, hbel⟩
              exact ⟨_, rfl, rfl, hbel⟩
          refine ⟨rq _ _ _ [(14, .int .i64 m)] ⟨⟨by kernel_rfl, rfl⟩, trivial⟩ ?_, ?_⟩
          · intro a w1 hC e14 (h20 : a.tmps.getD 135 undef = _)
            refine Or.inl ⟨h20, ?_⟩
            refine Or.inl ⟨.int .i64 m, ?_, rfl⟩
            go_simp
          refine ⟨rq _ _ _ [] trivial ?_, ?_⟩
          · intro a w1 hC  (h22 : a.tmps.getD 137 undef = _) (h23 : a.tmps.getD 138 undef = _) (h20 : a.tmps.getD 135 undef = _)
            refine Or.inl ⟨h20, ?_⟩
            refine Or.inl ⟨.bool true, ?_, rfl⟩
            go_simp
          refine ⟨rq _ _ _ [] trivial ?_, ?_⟩
          · intro a w1 hC  (h20 : a.tmps.getD 135 undef = _) (h24 : a.tmps.getD 139 undef = _)
            refine Or.inl ⟨.bool true, ?_, rfl⟩
            go_simp
          refine ⟨rq _ _ _ [] trivial ?_, ?_⟩
          · intro a w1 hC  (h25 : a.tmps.getD 140 undef = _) (h22 : a.tmps.getD 137 undef = _)
            refine Or.inl ⟨.bool true, ?_, rfl⟩
            go_simp
          refine ⟨rq _ _ _ [(19, .slice lo 64 lc)] ⟨⟨by kernel_rfl, rfl⟩, trivial⟩ ?_, ?_⟩
          · intro a w1 hC e19 (h26 : a.tmps.getD 141 undef = _)
            refine Or.inl ⟨h26, ?_⟩
            refine Or.inl ⟨.slice lo 64 lc, ?_, rfl⟩
            go_simp
          refine ⟨rq _ _ _ [] trivial ?_, ?_⟩
          · intro a w1 hC  (h27 : a.tmps.getD 142 undef = _) (h26 : a.tmps.getD 141 undef = _)
            refine Or.inl ⟨h26, ?_⟩
            refine Or.inl ⟨.slice lo 4 lc, ?_, rfl⟩
            have hcut := run_cut_h 30 elem_b18 size_b18 lo 64 lc 4 4 rfl (by omega)
            go_simp
          refine ⟨rq _ _ _ [] trivial ?_, ?_⟩
          · intro a w1 hC  (h28 : a.tmps.getD 143 undef = _) (h26 : a.tmps.getD 141 undef = _)
            refine Or.inl ⟨h26, ?_⟩
            refine Or.inl ⟨.string ⟨#[108, 101, 102, 116]⟩, ?_, rfl⟩
            have hcv := conv_str (P := Tryd.prog) (HLD.out.below hC) 30 9 5 Tryd.underlying30 Tryd.underlying5 Tryd.underlying9
            rw [show strOfNums [108, 101, 102, 116] = ⟨#[108, 101, 102, 116]⟩ by decide] at hcv
            go_simp
          refine ⟨rq _ _ _ [] trivial ?_, ?_⟩
          · intro a w1 hC  (h29 : a.tmps.getD 144 undef = _) (h26 : a.tmps.getD 141 undef = _)
            refine Or.inl ⟨h26, ?_⟩
            refine Or.inl ⟨.bool true, ?_, rfl⟩
            go_simp
          refine ⟨rq _ _ _ [] trivial ?_, ?_⟩
          · intro a w1 hC  (h26 : a.tmps.getD 141 undef = _) (h30 : a.tmps.getD 145 undef = _)
            refine Or.inl ⟨.bool true, ?_, rfl⟩
            go_simp
          refine ⟨rq _ _ _ [] trivial ?_, ?_⟩
          · intro a w1 hC  (h31 : a.tmps.getD 146 undef = _) (h26 : a.tmps.getD 141 undef = _)
            refine Or.inl ⟨.bool true, ?_, rfl⟩
            go_simp
          refine ⟨rq _ _ _ [(21, .slice ro 64 rc)] ⟨⟨by kernel_rfl, rfl⟩, trivial⟩ ?_, ?_⟩
          · intro a w1 hC e21 (h32 : a.tmps.getD 147 undef = _)
            refine Or.inl ⟨h32, ?_⟩
            refine Or.inl ⟨.slice ro 64 rc, ?_, rfl⟩
            go_simp
          refine ⟨rq _ _ _ [] trivial ?_, ?_⟩
          · intro a w1 hC  (h33 : a.tmps.getD 148 undef = _) (h32 : a.tmps.getD 147 undef = _)
            refine Or.inl ⟨h32, ?_⟩
            refine Or.inl ⟨.slice ro 5 rc, ?_, rfl⟩
            have hcut := run_cut_h 30 elem_b18 size_b18 ro 64 rc 5 5 rfl (by omega)
            go_simp
          refine ⟨rq _ _ _ [] trivial ?_, ?_⟩
          · intro a w1 hC  (h34 : a.tmps.getD 149 undef = _) (h32 : a.tmps.getD 147 undef = _)
            refine Or.inl ⟨h32, ?_⟩
            refine Or.inl ⟨.string ⟨#[114, 105, 103, 104, 116]⟩, ?_, rfl⟩
            have hcv := conv_str (P := Tryd.prog) (HRT.out.below hC) 30 9 5 Tryd.underlying30 Tryd.underlying5 Tryd.underlying9
            rw [show strOfNums [114, 105, 103, 104, 116] = ⟨#[114, 105, 103, 104, 116]⟩ by decide] at hcv
            go_simp
          refine ⟨rq _ _ _ [] trivial ?_, ?_⟩
          · intro a w1 hC  (h35 : a.tmps.getD 150 undef = _) (h32 : a.tmps.getD 147 undef = _)
            refine Or.inl ⟨h32, ?_⟩
            refine Or.inl ⟨.bool true, ?_, rfl⟩
            go_simp
          refine ⟨rq _ _ _ [] trivial ?_, ?_⟩
          · intro a w1 hC  (h32 : a.tmps.getD 147 undef = _) (h36 : a.tmps.getD 151 undef = _)
            refine Or.inl ⟨.bool true, ?_, rfl⟩
            go_simp
          refine ⟨rq _ _ _ [] trivial ?_, ?_⟩
          · intro a w1 hC  (h37 : a.tmps.getD 152 undef = _) (h32 : a.tmps.getD 147 undef = _) (h0 : a.tmps.getD 115 undef = _) h1 (h2 : a.tmps.getD 117 undef = _) (h3 : a.tmps.getD 118 undef = _) (h4 : a.tmps.getD 119 undef = _) (h5 : a.tmps.getD 120 undef = _) (h6 : a.tmps.getD 121 undef = _) (h7 : a.tmps.getD 122 undef = _) (h8 : a.tmps.getD 123 undef = _) (h9 : a.tmps.getD 124 undef = _) (h10 : a.tmps.getD 125 undef = _) (h11 : a.tmps.getD 126 undef = _) (h12 : a.tmps.getD 127 undef = _) (h13 : a.tmps.getD 128 undef = _) h14 (h15 : a.tmps.getD 130 undef = _) (h16 : a.tmps.getD 131 undef = _) (h17 : a.tmps.getD 132 undef = _) (h18 : a.tmps.getD 133 undef = _) (h19 : a.tmps.getD 134 undef = _) (h20 : a.tmps.getD 135 undef = _) (h21 : a.tmps.getD 136 undef = _) (h22 : a.tmps.getD 137 undef = _) (h23 : a.tmps.getD 138 undef = _) (h24 : a.tmps.getD 139 undef = _) (h25 : a.tmps.getD 140 undef = _) (h26 : a.tmps.getD 141 undef = _) (h27 : a.tmps.getD 142 undef = _) (h28 : a.tmps.getD 143 undef = _) (h29 : a.tmps.getD 144 undef = _) (h30 : a.tmps.getD 145 undef = _) (h31 : a.tmps.getD 146 undef = _) _ (h33 : a.tmps.getD 148 undef = _) (h34 : a.tmps.getD 149 undef = _) (h35 : a.tmps.getD 150 undef = _) (h36 : a.tmps.getD 151 undef = _) _
            refine Or.inl ⟨.bool true, ?_, rfl⟩
            go_simp
          exact trivial
        case hstt => repeat (first | exact trivial | refine ⟨Stays.is _, ?_⟩ | refine ⟨Stays.rd _ _, ?_⟩)
        case hendt =>
          intro w1 hC
          rintro _ rfl
          intro x1 h1
          rintro _ rfl _ rfl _ rfl _ rfl _ rfl _ rfl _ rfl _ rfl _ rfl _ rfl _ rfl _ rfl
          intro x14 h14
          rintro _ rfl _ rfl _ rfl _ rfl _ rfl _ rfl _ rfl _ rfl _ rfl _ rfl _ rfl _ rfl _ rfl _ rfl _ rfl _ rfl _ rfl _ rfl _ rfl _ rfl _ rfl _ rfl _ rfl _ rfl
          simp only [Ends, Act.put, List.setIfInBounds_toArray, List.set_cons_succ, List.set_cons_zero]
          replace HB := hid (Bl.step HB.out hC)
          clear hC
          go_wp2_with fail
          go_ret
          exact ⟨rfl, HB.out⟩
      · have k3 : (k : Int) < (sn : Int) := by omega
        have k4 : ¬ (k : Int) < 10 := by omega
        clear hlt
        go_wp2_with fail
        refine HS.out.crashes.mono ?_
        rintro e wc ⟨rp, Ar, Mr, rfl, hat, hh1, hh2, hlen, h0, h5, hb⟩
        have HR := hid (And.intro hat (And.intro hh1 (And.intro hh2 (And.intro hlen (And.intro h0 h5)))))
        replace HB := hid (Bl.step HB.out hb)
        clear hat hh1 hh2 hlen h0 h5 hb HS
        go_wp2_with fail
        refine (X.open_to Ar Mr rp wc 1 xa n HR.out.1 HR.out.2.1 (by rw [HR.out.2.2.2.1]; decide) (X.lb HL0.out HB.out)).mono ?_
        rintro e wd ⟨xu, Bx, rfl, _, hsu, hb⟩
        have HXU := hid hsu
        have HT := hid (X.bel HR.out.1 hb)
        replace HB := hid (Bl.step HB.out hb)
        clear hsu hb
        go_wp2_with fail
        refine (X.open_to Ar Mr rp wd 3 xb m HT.out HR.out.2.2.1 (by rw [HR.out.2.2.2.1]; decide) (X.lb HL0.out HB.out)).mono ?_
        rintro e we ⟨yu, By, rfl, _, hsu, hb⟩
        have HYU := hid hsu
        replace HXU := hid (X.sbel HXU.out hb)
        replace HT := hid (X.bel HT.out hb)
        replace HB := hid (Bl.step HB.out hb)
        clear hsu hb
        go_wp2_with fail
        have eL : Mr.readE 0 = 0 ∧ Mr.read 0 = Mr.now.getD 0 [] := ⟨by unfold Dv.readE; rw [HR.out.2.2.2.1]; decide, rfl⟩
        refine (X.read_to Ar Mr rp we 0 HT.out (by decide)).mono ?_
        rintro e wf ⟨v, rfl, hv, hb⟩
        rw [eL.2, HR.out.2.2.2.2.1] at hv
        rw [eL.1]
        obtain ⟨lo, lc, rfl, hrd⟩ := hv.rd
        rw [show (secOf [108, 101, 102, 116]).length = 64 from rfl] at hrd ⊢
        have lc64 := hrd.le
        have HLD := hid (hrd.upto (i := 4) (by decide))
        rw [show (secOf [108, 101, 102, 116]).take 4 = [108, 101, 102, 116] from rfl] at HLD
        replace HXU := hid (X.sbel HXU.out hb)
        replace HYU := hid (X.sbel HYU.out hb)
        replace HT := hid (X.bel HT.out hb)
        replace HB := hid (Bl.step HB.out hb)
        clear hv hb hrd eL
        go_wp2_with fail
        have eR : Mr.readE 5 = 0 ∧ Mr.read 5 = Mr.now.getD 5 [] := ⟨by unfold Dv.readE; rw [HR.out.2.2.2.1]; decide, rfl⟩
        refine (X.read_to Ar Mr rp wf 5 HT.out (by decide)).mono ?_
        rintro e wg ⟨v, rfl, hv, hb⟩
        rw [eR.2, HR.out.2.2.2.2.2] at hv
        rw [eR.1]
        obtain ⟨ro, rc, rfl, hrd⟩ := hv.rd
        rw [show (secOf [114, 105, 103, 104, 116]).length = 64 from rfl] at hrd ⊢
        have rc64 := hrd.le
        have HRT := hid (hrd.upto (i := 5) (by decide))
        rw [show (secOf [114, 105, 103, 104, 116]).take 5 = [114, 105, 103, 104, 116] from rfl] at HRT
        replace HLD := hid (HLD.out.below hb)
        replace HXU := hid (X.sbel HXU.out hb)
        replace HYU := hid (X.sbel HYU.out hb)
        replace HB := hid (Bl.step HB.out hb)
        clear hv hb hrd eR HT HR
        go_wp2_with fail
        refine wp_region_below (by kernel_rfl) (Is (.pointer (some xu)) :: IsRd .u8 xa :: Is (.string (strOfNums xa)) :: Is (.slice ao an ac) :: Is (.string (strOfNums xa)) :: Is (.bool true) :: Is (.bool true) :: Is (.pointer (some xu)) :: Is (.int .i64 n) :: Is (.int .i64 n) :: Is (.bool true) :: Is (.bool true) :: Is (.bool true) :: Is (.pointer (some yu)) :: IsRd .u8 xb :: Is (.string (strOfNums xb)) :: Is (.slice bo bn bc) :: Is (.string (strOfNums xb)) :: Is (.bool true) :: Is (.bool true) :: Is (.bool true) :: Is (.pointer (some yu)) :: Is (.int .i64 m) :: Is (.int .i64 m) :: Is (.bool true) :: Is (.bool true) :: Is (.bool true) :: Is (.slice lo 64 lc) :: Is (.slice lo 4 lc) :: Is (.string ⟨#[108, 101, 102, 116]⟩) :: Is (.bool true) :: Is (.bool true) :: Is (.bool true) :: Is (.slice ro 64 rc) :: Is (.slice ro 5 rc) :: Is (.string ⟨#[114, 105, 103, 104, 116]⟩) :: Is (.bool true) :: Is (.bool true) :: Is (.bool true) :: []) _ rfl (by kernel_rfl) rfl ?hopu ?hstu ?hendu
        case hopu =>
          refine ⟨rq _ _ _ [(17, .pointer (some xu))] ⟨⟨by kernel_rfl, rfl⟩, trivial⟩ ?_, ?_⟩
          · intro a w1 hC e17
            refine Or.inl ⟨.pointer (some xu), ?_, rfl⟩
            go_simp
          refine ⟨rq _ _ _ [] trivial ?_, ?_⟩
          · intro a w1 hC  (h0 : a.tmps.getD 115 undef = _)
            refine Or.inr (Or.inl ⟨14, #[.pointer (some xu)], ?_, ?_⟩)
            · go_simp
            · refine (X.text_at (X.sbel HXU.out hC)).mono ?_
              rintro e w2 ⟨vo, vc, rfl, hrd, hbel⟩
              exact ⟨_, rfl, ⟨vo, vc, rfl, hrd⟩, hbel⟩
          refine ⟨rq _ _ _ [] trivial ?_, ?_⟩
          · intro a w1 hC  h1
            obtain ⟨ao1, cap1, e5, hrd⟩ := h1
            have e5 : a.tmps.getD 116 undef = _ := e5
            refine Or.inl ⟨.string (strOfNums xa), ?_, rfl⟩
            have hcv := conv_str (P := Tryd.prog) hrd 30 9 5 Tryd.underlying30 Tryd.underlying5 Tryd.underlying9
            go_simp
          refine ⟨rq _ _ _ [(0, .slice ao an ac)] ⟨⟨by kernel_rfl, rfl⟩, trivial⟩ ?_, ?_⟩
          · intro a w1 hC e0
            refine Or.inl ⟨.slice ao an ac, ?_, rfl⟩
            go_simp
          refine ⟨rq _ _ _ [] trivial ?_, ?_⟩
          · intro a w1 hC  (h3 : a.tmps.getD 118 undef = _)
            refine Or.inl ⟨.string (strOfNums xa), ?_, rfl⟩
            have hcv := conv_str (P := Tryd.prog) (HRA.out.below (Bl.step HB.out hC)) 30 9 5 Tryd.underlying30 Tryd.underlying5 Tryd.underlying9
            go_simp
          refine ⟨rq _ _ _ [] trivial ?_, ?_⟩
          · intro a w1 hC  (h2 : a.tmps.getD 117 undef = _) (h4 : a.tmps.getD 119 undef = _)
            refine Or.inl ⟨.bool true, ?_, rfl⟩
            go_simp
          refine ⟨rq _ _ _ [] trivial ?_, ?_⟩
          · intro a w1 hC  (h5 : a.tmps.getD 120 undef = _) h1
            refine Or.inl ⟨.bool true, ?_, rfl⟩
            go_simp
          refine ⟨rq _ _ _ [(17, .pointer (some xu))] ⟨⟨by kernel_rfl, rfl⟩, trivial⟩ ?_, ?_⟩
          · intro a w1 hC e17 (h6 : a.tmps.getD 121 undef = _)
            refine Or.inl ⟨h6, ?_⟩
            refine Or.inl ⟨.pointer (some xu), ?_, rfl⟩
            go_simp
          refine ⟨rq _ _ _ [] trivial ?_, ?_⟩
          · intro a w1 hC  (h7 : a.tmps.getD 122 undef = _) (h6 : a.tmps.getD 121 undef = _) _
            refine Or.inl ⟨h6, ?_⟩
            refine Or.inr (Or.inl ⟨15, #[.pointer (some xu)], ?_, ?_⟩)
            · go_simp
            · refine (X.turn_at (X.sbel HXU.out hC)).mono ?_
              rintro e w2 ⟨rfl, hbel⟩
              exact ⟨_, rfl, rfl, hbel⟩
          refine ⟨rq _ _ _ [(13, .int .i64 n)] ⟨⟨by kernel_rfl, rfl⟩, trivial⟩ ?_, ?_⟩
          · intro a w1 hC e13 (h6 : a.tmps.getD 121 undef = _)
            refine Or.inl ⟨h6, ?_⟩
            refine Or.inl ⟨.int .i64 n, ?_, rfl⟩
            go_simp
          refine ⟨rq _ _ _ [] trivial ?_, ?_⟩
          · intro a w1 hC  (h8 : a.tmps.getD 123 undef = _) (h9 : a.tmps.getD 124 undef = _) (h6 : a.tmps.getD 121 undef = _)
            refine Or.inl ⟨h6, ?_⟩
            refine Or.inl ⟨.bool true, ?_, rfl⟩
            go_simp
          refine ⟨rq _ _ _ [] trivial ?_, ?_⟩
          · intro a w1 hC  (h6 : a.tmps.getD 121 undef = _) (h10 : a.tmps.getD 125 undef = _)
            refine Or.inl ⟨.bool true, ?_, rfl⟩
            go_simp
          refine ⟨rq _ _ _ [] trivial ?_, ?_⟩
          · intro a w1 hC  (h11 : a.tmps.getD 126 undef = _) (h8 : a.tmps.getD 123 undef = _)
            refine Or.inl ⟨.bool true, ?_, rfl⟩
            go_simp
          refine ⟨rq _ _ _ [(18, .pointer (some yu))] ⟨⟨by kernel_rfl, rfl⟩, trivial⟩ ?_, ?_⟩
          · intro a w1 hC e18 (h12 : a.tmps.getD 127 undef = _)
            refine Or.inl ⟨h12, ?_⟩
            refine Or.inl ⟨.pointer (some yu), ?_, rfl⟩
            go_simp
          refine ⟨rq _ _ _ [] trivial ?_, ?_⟩
          · intro a w1 hC  (h13 : a.tmps.getD 128 undef = _) (h12 : a.tmps.getD 127 undef = _) _
            refine Or.inl ⟨h12, ?_⟩
            refine Or.inr (Or.inl ⟨14, #[.pointer (some yu)], ?_, ?_⟩)
            · go_simp
            · refine (X.text_at (X.sbel HYU.out hC)).mono ?_
              rintro e w2 ⟨vo, vc, rfl, hrd, hbel⟩
              exact ⟨_, rfl, ⟨vo, vc, rfl, hrd⟩, hbel⟩
          refine ⟨rq _ _ _ [] trivial ?_, ?_⟩
          · intro a w1 hC  h14 (h12 : a.tmps.getD 127 undef = _)
            refine Or.inl ⟨h12, ?_⟩
            obtain ⟨ao1, cap1, e5, hrd⟩ := h14
            have e5 : a.tmps.getD 129 undef = _ := e5
            refine Or.inl ⟨.string (strOfNums xb), ?_, rfl⟩
            have hcv := conv_str (P := Tryd.prog) hrd 30 9 5 Tryd.underlying30 Tryd.underlying5 Tryd.underlying9
            go_simp
          refine ⟨rq _ _ _ [(1, .slice bo bn bc)] ⟨⟨by kernel_rfl, rfl⟩, trivial⟩ ?_, ?_⟩
          · intro a w1 hC e1 (h12 : a.tmps.getD 127 undef = _)
            refine Or.inl ⟨h12, ?_⟩
            refine Or.inl ⟨.slice bo bn bc, ?_, rfl⟩
            go_simp
          refine ⟨rq _ _ _ [] trivial ?_, ?_⟩
          · intro a w1 hC  (h16 : a.tmps.getD 131 undef = _) (h12 : a.tmps.getD 127 undef = _)
            refine Or.inl ⟨h12, ?_⟩
            refine Or.inl ⟨.string (strOfNums xb), ?_, rfl⟩
            have hcv := conv_str (P := Tryd.prog) (HRB.out.below (Bl.step HB.out hC)) 30 9 5 Tryd.underlying30 Tryd.underlying5 Tryd.underlying9
            go_simp
          refine ⟨rq _ _ _ [] trivial ?_, ?_⟩
          · intro a w1 hC  (h15 : a.tmps.getD 130 undef = _) (h17 : a.tmps.getD 132 undef = _) (h12 : a.tmps.getD 127 undef = _)
            refine Or.inl ⟨h12, ?_⟩
            refine Or.inl ⟨.bool true, ?_, rfl⟩
            go_simp
          refine ⟨rq _ _ _ [] trivial ?_, ?_⟩
          · intro a w1 hC  (h12 : a.tmps.getD 127 undef = _) (h18 : a.tmps.getD 133 undef = _)
            refine Or.inl ⟨.bool true, ?_, rfl⟩
            go_simp
          refine ⟨rq _ _ _ [] trivial ?_, ?_⟩
          · intro a w1 hC  (h19 : a.tmps.getD 134 undef = _) h14
            refine Or.inl ⟨.bool true, ?_, rfl⟩
            go_simp
          refine ⟨rq _ _ _ [(18, .pointer (some yu))] ⟨⟨by kernel_rfl, rfl⟩, trivial⟩ ?_, ?_⟩
          · intro a w1 hC e18 (h20 : a.tmps.getD 135 undef = _)
            refine Or.inl ⟨h20, ?_⟩
            refine Or.inl ⟨.pointer (some yu), ?_, rfl⟩
            go_simp
          refine ⟨rq _ _ _ [] trivial ?_, ?_⟩
          · intro a w1 hC  (h21 : a.tmps.getD 136 undef = _) (h20 : a.tmps.getD 135 undef = _) _
            refine Or.inl ⟨h20, ?_⟩
            refine Or.inr (Or.inl ⟨15, #[.pointer (some yu)], ?_, ?_⟩)
            · go_simp
            · refine (X.turn_at (X.sbel HYU.out hC)).mono ?_
              rintro e w2 ⟨rfl, hbel⟩
              exact ⟨_, rfl, rfl, hbel⟩
          refine ⟨rq _ _ _ [(14, .int .i64 m)] ⟨⟨by kernel_rfl, rfl⟩, trivial⟩ ?_, ?_⟩
          · intro a w1 hC e14 (h20 : a.tmps.getD 135 undef = _)
            refine Or.inl ⟨h20, ?_⟩
            refine Or.inl ⟨.int .i64 m, ?_, rfl⟩
            go_simp
          refine ⟨rq _ _ _ [] trivial ?_, ?_⟩
          · intro a w1 hC  (h22 : a.tmps.getD 137 undef = _) (h23 : a.tmps.getD 138 undef = _) (h20 : a.tmps.getD 135 undef = _)
            refine Or.inl ⟨h20, ?_⟩
            refine Or.inl ⟨.bool true, ?_, rfl⟩
            go_simp
          refine ⟨rq _ _ _ [] trivial ?_, ?_⟩
          · intro a w1 hC  (h20 : a.tmps.getD 135 undef = _) (h24 : a.tmps.getD 139 undef = _)
            refine Or.inl ⟨.bool true, ?_, rfl⟩
            go_simp
          refine ⟨rq _ _ _ [] trivial ?_, ?_⟩
          · intro a w1 hC  (h25 : a.tmps.getD 140 undef = _) (h22 : a.tmps.getD 137 undef = _)
            refine Or.inl ⟨.bool true, ?_, rfl⟩
            go_simp
          refine ⟨rq _ _ _ [(19, .slice lo 64 lc)] ⟨⟨by kernel_rfl, rfl⟩, trivial⟩ ?_, ?_⟩
          · intro a w1 hC e19 (h26 : a.tmps.getD 141 undef = _)
            refine Or.inl ⟨h26, ?_⟩
            refine Or.inl ⟨.slice lo 64 lc, ?_, rfl⟩
            go_simp
          refine ⟨rq _ _ _ [] trivial ?_, ?_⟩
          · intro a w1 hC  (h27 : a.tmps.getD 142 undef = _) (h26 : a.tmps.getD 141 undef = _)
            refine Or.inl ⟨h26, ?_⟩
            refine Or.inl ⟨.slice lo 4 lc, ?_, rfl⟩
            have hcut := run_cut_h 30 elem_b18 size_b18 lo 64 lc 4 4 rfl (by omega)
            go_simp
          refine ⟨rq _ _ _ [] trivial ?_, ?_⟩
          · intro a w1 hC  (h28 : a.tmps.getD 143 undef = _) (h26 : a.tmps.getD 141 undef = _)
            refine Or.inl ⟨h26, ?_⟩
            refine Or.inl ⟨.string ⟨#[108, 101, 102, 116]⟩, ?_, rfl⟩
            have hcv := conv_str (P := Tryd.prog) (HLD.out.below hC) 30 9 5 Tryd.underlying30 Tryd.underlying5 Tryd.underlying9
            rw [show strOfNums [108, 101, 102, 116] = ⟨#[108, 101, 102, 116]⟩ by decide] at hcv
            go_simp
          refine ⟨rq _ _ _ [] trivial ?_, ?_⟩
          · intro a w1 hC  (h29 : a.tmps.getD 144 undef = _) (h26 : a.tmps.getD 141 undef = _)
            refine Or.inl ⟨h26, ?_⟩
            refine Or.inl ⟨.bool true, ?_, rfl⟩
            go_simp
          refine ⟨rq _ _ _ [] trivial ?_, ?_⟩
          · intro a w1 hC  (h26 : a.tmps.getD 141 undef = _) (h30 : a.tmps.getD 145 undef = _)
            refine Or.inl ⟨.bool true, ?_, rfl⟩
            go_simp
          refine ⟨rq _ _ _ [] trivial ?_, ?_⟩
          · intro a w1 hC  (h31 : a.tmps.getD 146 undef = _) (h26 : a.tmps.getD 141 undef = _)
            refine Or.inl ⟨.bool true, ?_, rfl⟩
            go_simp
          refine ⟨rq _ _ _ [(21, .slice ro 64 rc)] ⟨⟨by kernel_rfl, rfl⟩, trivial⟩ ?_, ?_⟩
          · intro a w1 hC e21 (h32 : a.tmps.getD 147 undef = _)
            refine Or.inl ⟨h32, ?_⟩
            refine Or.inl ⟨.slice ro 64 rc, ?_, rfl⟩
            go_simp
          refine ⟨rq _ _ _ [] trivial ?_, ?_⟩
          · intro a w1 hC  (h33 : a.tmps.getD 148 undef = _) (h32 : a.tmps.getD 147 undef = _)
            refine Or.inl ⟨h32, ?_⟩
            refine Or.inl ⟨.slice ro 5 rc, ?_, rfl⟩
            have hcut := run_cut_h 30 elem_b18 size_b18 ro 64 rc 5 5 rfl (by omega)
            go_simp
          refine ⟨rq _ _ _ [] trivial ?_, ?_⟩
          · intro a w1 hC  (h34 : a.tmps.getD 149 undef = _) (h32 : a.tmps.getD 147 undef = _)
            refine Or.inl ⟨h32, ?_⟩
            refine Or.inl ⟨.string ⟨#[114, 105, 103, 104, 116]⟩, ?_, rfl⟩
            have hcv := conv_str (P := Tryd.prog) (HRT.out.below hC) 30 9 5 Tryd.underlying30 Tryd.underlying5 Tryd.underlying9
            rw [show strOfNums [114, 105, 103, 104, 116] = ⟨#[114, 105, 103, 104, 116]⟩ by decide] at hcv
            go_simp
          refine ⟨rq _ _ _ [] trivial ?_, ?_⟩
          · intro a w1 hC  (h35 : a.tmps.getD 150 undef = _) (h32 : a.tmps.getD 147 undef = _)
            refine Or.inl ⟨h32, ?_⟩
            refine Or.inl ⟨.bool true, ?_, rfl⟩
            go_simp
          refine ⟨rq _ _ _ [] trivial ?_, ?_⟩
          · intro a w1 hC  (h32 : a.tmps.getD 147 undef = _) (h36 : a.tmps.getD 151 undef = _)
            refine Or.inl ⟨.bool true, ?_, rfl⟩
            go_simp
          refine ⟨rq _ _ _ [] trivial ?_, ?_⟩
          · intro a w1 hC  (h37 : a.tmps.getD 152 undef = _) (h32 : a.tmps.getD 147 undef = _) (h0 : a.tmps.getD 115 undef = _) h1 (h2 : a.tmps.getD 117 undef = _) (h3 : a.tmps.getD 118 undef = _) (h4 : a.tmps.getD 119 undef = _) (h5 : a.tmps.getD 120 undef = _) (h6 : a.tmps.getD 121 undef = _) (h7 : a.tmps.getD 122 undef = _) (h8 : a.tmps.getD 123 undef = _) (h9 : a.tmps.getD 124 undef = _) (h10 : a.tmps.getD 125 undef = _) (h11 : a.tmps.getD 126 undef = _) (h12 : a.tmps.getD 127 undef = _) (h13 : a.tmps.getD 128 undef = _) h14 (h15 : a.tmps.getD 130 undef = _) (h16 : a.tmps.getD 131 undef = _) (h17 : a.tmps.getD 132 undef = _) (h18 : a.tmps.getD 133 undef = _) (h19 : a.tmps.getD 134 undef = _) (h20 : a.tmps.getD 135 undef = _) (h21 : a.tmps.getD 136 undef = _) (h22 : a.tmps.getD 137 undef = _) (h23 : a.tmps.getD 138 undef = _) (h24 : a.tmps.getD 139 undef = _) (h25 : a.tmps.getD 140 undef = _) (h26 : a.tmps.getD 141 undef = _) (h27 : a.tmps.getD 142 undef = _) (h28 : a.tmps.getD 143 undef = _) (h29 : a.tmps.getD 144 undef = _) (h30 : a.tmps.getD 145 undef = _) (h31 : a.tmps.getD 146 undef = _) _ (h33 : a.tmps.getD 148 undef = _) (h34 : a.tmps.getD 149 undef = _) (h35 : a.tmps.getD 150 undef = _) (h36 : a.tmps.getD 151 undef = _) _
            refine Or.inl ⟨.bool true, ?_, rfl⟩
            go_simp
          exact trivial
        case hstu => repeat (first | exact trivial | refine ⟨Stays.is _, ?_⟩ | refine ⟨Stays.rd _ _, ?_⟩)
        case hendu =>
          intro w1 hC
          rintro _ rfl
          intro x1 h1
          rintro _ rfl _ rfl _ rfl _ rfl _ rfl _ rfl _ rfl _ rfl _ rfl _ rfl _ rfl _ rfl
          intro x14 h14
          rintro _ rfl _ rfl _ rfl _ rfl _ rfl _ rfl _ rfl _ rfl _ rfl _ rfl _ rfl _ rfl _ rfl _ rfl _ rfl _ rfl _ rfl _ rfl _ rfl _ rfl _ rfl _ rfl _ rfl _ rfl
          simp only [Ends, Act.put, List.setIfInBounds_toArray, List.set_cons_succ, List.set_cons_zero]
          replace HB := hid (Bl.step HB.out hC)
          clear hC
          go_wp2_with fail
          go_ret
          exact ⟨rfl, HB.out⟩
end Go.Proofs.YtpfcopdckjedfaaDoor
