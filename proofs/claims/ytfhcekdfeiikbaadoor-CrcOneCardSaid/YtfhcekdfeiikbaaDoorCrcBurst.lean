import Derived.Test.YtfhcekdfeiikbaaDoorCrcThree
import Derived.Test.YtfhcekdfeiikbaaDoorCrcTwo
namespace Go.Proofs.YtfhcekdfeiikbaaDoor
open Go.RowKit

def nz (l : List Int) : Bool := l.any (· != 0)
theorem nz_snoc (l : List Int) (x : Int) : nz (l ++ [x]) = (nz l || (x != 0)) := by simp [nz]

/-- The last part: both sums, which are unlike. -/
theorem crc_unlike (s t : Nat) (h : t ≠ s) : (((s : Nat) : Int) != ((t : Nat) : Int)) = true := by simp; omega

set_option maxRecDepth 100000 in
set_option maxHeartbeats 1600000 in
theorem crcBurst_walk (pa pb : Option Addr) (n0 c0 n1 c1 : Nat) (xs ys : List Int) (at_ : Int) (w : World) (h0 : Rd .u8 w pa n0 c0 xs) (h1 : Rd .u8 w pb n1 c1 ys) (hat : -9223372036854775808 ≤ at_ ∧ at_ ≤ 9223372036854775807) (hL : Laid w) :
    Calls Tryd.prog 4 #[.slice pa n0 c0, .int .i64 at_, .slice pb n1 c1] w fun e w' => e = .returned (.bool true) ∧ Below w.heap.size w w' := by
  obtain ⟨hat0, hat1⟩ := hat
  have s0 := h0.short 200
  have s1 := h1.short 4
  have l0 := h0.le
  have l1 := h1.le
  have m0 := h0.cap63
  have m1 := h1.cap63
  obtain ⟨x, hx⟩ : ∃ x, x = xs.take (min n0 200) := ⟨_, rfl⟩
  obtain ⟨y, hy⟩ : ∃ y, y = ys.take (min n1 4) := ⟨_, rfl⟩
  rw [← hx] at s0
  rw [← hy] at s1
  obtain ⟨p, hp⟩ : ∃ p, p = min n0 200 := ⟨_, rfl⟩
  obtain ⟨q, hq⟩ : ∃ q, q = min n1 4 := ⟨_, rfl⟩
  have HS0 := hid (short_any pa n0 c0 200 · l0 m0 (by omega))
  have HS1 := hid (short_any pb n1 c1 4 · l1 m1 (by omega))
  rw [← hp] at s0 HS0
  rw [← hq] at s1 HS1
  have hp3 : p ≤ 200 := by omega
  have hq3 : q ≤ 4 := by omega
  clear hx hy hp hq h0 h1
  have X := hid s0.bytes
  have Y := hid s1.bytes
  have Hlx := hid s0.len
  have Hly := hid s1.len
  go_enter Tryd.func4, Tryd.ntmps4
  go_wp2_with fail
  refine (begun_any w hL).mono ?_
  rintro e w1 ⟨rfl, b1⟩
  go_wp2_with fail
  refine (HS0.out w1).mono ?_
  rintro e w' ⟨rfl, rfl⟩
  go_wp2_with fail
  refine (HS1.out w1).mono ?_
  rintro e w' ⟨rfl, rfl⟩
  have S0 := hid (s0.below b1)
  have S1 := hid (s1.below b1)
  have L1 := hid (hL.below b1)
  have W0 := hid s0
  have W1 := hid s1
  have LW := hid hL
  clear s0 s1 hL
  go_wp2_with fail
  go_loop [8, 9] (fun s i => ∃ k : Nat, i = .int .i64 k ∧ k ≤ q ∧ s = .bool (nz (y.take k))) (fun _ i => q - (intOf i).toNat)
  case atStart => exact ⟨0, rfl, by omega, rfl⟩
  case round =>
    obtain ⟨k, rfl, hk, rfl⟩ := hrel
    by_cases hkq : k < q
    · obtain ⟨bb, fb, rfl, cb⟩ := S1.out.at (by omega)
      have eb := cb k hkq
      have hn : nz (y.take (k + 1)) = (nz (y.take k) || (y.getD k 0 != 0)) := by
        rw [take_next y (by rw [Hly.out]; exact hkq), nz_snoc]
      have hb8 := Y.out _ (S1.out.mem hkq)
      obtain ⟨z, hz⟩ : ∃ z : Int, y.getD k 0 = z := ⟨_, rfl⟩
      rw [hz] at eb hn hb8
      obtain ⟨r, hr⟩ : ∃ r, r = nz (y.take k) := ⟨_, rfl⟩
      rw [← hr] at hn ⊢
      have Hn := hid hn
      clear hr hn hz cb
      cases r
      · go_wp2_with fail
        go_round
        case rel => exact ⟨k + 1, by go_num, by omega, by rw [Hn.out]; simp⟩
        case measure => simp [intOf]; omega
      · go_wp2_with fail
        go_round
        case rel => exact ⟨k + 1, by go_num, by omega, by rw [Hn.out]; simp⟩
        case measure => simp [intOf]; omega
    · obtain rfl : k = q := by omega
      have hty : y.take k = y := List.take_of_length_le (by rw [Hly.out]; exact Nat.le_refl _)
      rw [hty]
      clear hty hkq
      have done : ∀ {P : Prop}, P → P := fun h => h
      rcases (show at_ < 0 ∨ (0 ≤ at_ ∧ (p : Int) - k < at_) ∨ (0 ≤ at_ ∧ at_ ≤ (p : Int) - k) from by omega) with hc | ⟨hc, hc2⟩ | ⟨hc, hc2⟩
      · go_wp2_with fail
        go_ret
        exact ⟨rfl, b1⟩
      · go_wp2_with fail
        go_ret
        exact ⟨rfl, b1⟩
      · obtain ⟨r, hr⟩ : ∃ r, r = nz y := ⟨_, rfl⟩
        rw [← hr]
        have Hr := hid hr
        clear hr
        cases r
        · go_wp2_with fail
          go_ret
          exact ⟨rfl, b1⟩
        · obtain ⟨a, rfl⟩ : ∃ a : Nat, at_ = a := ⟨at_.toNat, by omega⟩
          have hapk : a + k ≤ p := by omega
          have hk0 : 0 < k := by
            rcases Nat.eq_zero_or_pos k with h | h
            · have : y = [] := List.eq_nil_of_length_eq_zero (by rw [Hly.out]; exact h)
              rw [this] at Hr
              exact absurd Hr.out (by decide)
            · exact h
          have hpb : p ≤ 1000 := by omega
          have Hne := hid (show ∃ z ∈ y, z ≠ 0 from by
            have := Hr.out.symm
            simpa [nz] using this)
          have HB := hid (crc_burst (p := p) (a := a) Hlx.out (by rw [Hly.out]; exact hapk) (by rw [Hly.out]; exact hq3) X.out Y.out Hne.out)
          have hl0 := Hlx.out
          have hxb : (0 + p) * 1 ≤ 140737488355328 := by omega
          have Hl0 := hid hl0
          clear hl0
          go_wp2_with (at_builtin; refine wpList_append_rd rfl (.const (.slice none 0 0)) _ 22 rfl 5 .u8 w1.heap.size 1 Tryd.underlying22 infoU8 _ [] rfl (Own.nil _ _ _ _) pa p c0 x rfl S0.out (by simp; omega) (by simp; omega) (Nat.le_refl _) ?_; intro v2 w2 o2 b2 _)
          rw [List.nil_append] at o2
          obtain ⟨g, capg, rfl, hg0, hgc, hg63⟩ := o2.form (by rw [Hl0.out]; omega)
          rw [Hl0.out] at hgc o2 ⊢
          have O2 := hid (o2.lift b1.size)
          have B2 := b1.trans (b2.mono b1.size)
          have hgb := Nat.le_trans b1.size hg0
          clear o2 b2 hg0 hxb
          go_wp2_with fail
          go_loopw [11] (fun i wr => ∃ j : Nat, i = .int .i64 j ∧ j ≤ k ∧ Own 5 .u8 w.heap.size wr (.slice (some ⟨g, 0, none⟩) p capg) (xl x (pad p a (y.take j))) ∧ Below w.heap.size w wr) (fun i _ => k - (intOf i).toNat)
          case atStart =>
            refine ⟨0, rfl, by omega, ?_, B2⟩
            rw [List.take_zero, xl_pad_zero Hlx.out (by omega) X.out]
            exact O2.out
          case round =>
            obtain ⟨j, rfl, hj, O, B⟩ := hrel
            by_cases hjk : j < k
            · obtain ⟨bb, fb, rfl, cb⟩ := W1.out.at (by omega)
              have eb0 := cb j hjk
              have eb := (B.cell (World.block_lt_of_cell? w _ eb0)).trans eb0
              have vb := Y.out _ (W1.out.mem hjk)
              have va := X.out _ (W0.out.mem (i := a + j) (by omega))
              have hll : (xl x (pad p a (y.take j))).length = p := by
                rw [xl_len _ _ (by rw [pad_len (by rw [List.length_take, Hly.out]; omega), Hlx.out]), Hlx.out]
              obtain ⟨f1, f2, f3, f4, f5⟩ := O.cell (a + j) (by omega)
              rw [xl_pad_at Hlx.out (by rw [Hly.out]; exact hapk) (by rw [Hly.out]; exact hjk) X.out] at f1
              have Hx := hid (xl_pad_next (a := a) (k := j) Hlx.out (by rw [Hly.out]; exact hapk) (by rw [Hly.out]; exact hjk))
              obtain ⟨u, hu⟩ : ∃ u : Nat, x.getD (a + j) 0 = (u : Int) := ⟨(x.getD (a + j) 0).toNat, by omega⟩
              obtain ⟨v, hv⟩ : ∃ v : Nat, y.getD j 0 = (v : Int) := ⟨(y.getD j 0).toNat, by omega⟩
              rw [hu] at va f1
              rw [hv] at vb eb
              rw [hu, hv] at Hx
              simp only [Int.toNat_natCast] at Hx
              have q1 := u8_xor_nat u v (by omega) (by omega)
              have huv : u ^^^ v < 256 := Nat.xor_lt_two_pow (n := 8) (by omega) (by omega)
              obtain ⟨uv, huv'⟩ : ∃ uv, uv = u ^^^ v := ⟨_, rfl⟩
              rw [← huv'] at q1 Hx huv
              have HO := hid O
              clear f5 hll hu hv huv' cb eb0 O
              have i1 : IntKind.i64.wrap ((a : Int) + j) = ((a + j : Nat) : Int) := by rw [IntWalk.i64_in _ (by omega)]; simp
              go_wp2_with fail
              go_region
              go_wp2_with fail
              go_roundw
              case rel =>
                refine ⟨j + 1, by go_num, by omega, ?_, (Below.setCell B (p := ⟨g, a + j, none⟩) f3 _).drew⟩
                rw [Hx.out]
                exact (HO.out.set (a + j) _ (WalkArith.wf_u8 (by omega))).drew
              case measure => simp [intOf]; omega
            · obtain rfl : j = k := by omega
              have hty : y.take j = y := List.take_of_length_le (by rw [Hly.out]; exact Nat.le_refl _)
              rw [hty] at O
              obtain ⟨d, hd⟩ : ∃ d, d = xl x (pad p a y) := ⟨_, rfl⟩
              rw [← hd] at O HB
              have hdl : d.length = p := by
                rw [hd, xl_len _ _ (by rw [pad_len (by rw [Hly.out]; omega), Hlx.out]), Hlx.out]
              obtain ⟨aog, capg', hv, rg⟩ := O.rd
              rw [hdl] at hv rg
              simp only [Value.slice.injEq] at hv
              obtain ⟨rfl, -, rfl⟩ := hv
              have Rg := hid rg
              have L := hid (LW.out.below B)
              have R0 := hid (W0.out.below B)
              clear O hd hdl rg hjk hty
              go_wp2_with fail
              refine (sum_any _ _ _ _ wr R0.out L.out).mono ?_
              rintro e w' ⟨rfl, rfl⟩
              go_wp2_with fail
              refine (sum_any _ _ _ _ wr Rg.out L.out).mono ?_
              rintro e w' ⟨rfl, rfl⟩
              go_wp2_with fail
              go_ret
              refine ⟨?_, B⟩
              have := crc_unlike _ _ HB.out
              simpa using this
end Go.Proofs.YtfhcekdfeiikbaaDoor
