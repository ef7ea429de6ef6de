import Derived.Test.YtnbegmlbkjjggaaLebDecTwo
namespace Go.Proofs.Ytnbegmlbkjjggaa
open Go.RowKit

theorem U_range (ao : Option Addr) (n cap : Nat) (bits : Int) (w : World) (h : bits < 1 ∨ 64 < bits) :
    Calls Try.prog 60 #[.slice ao n cap, .int .i64 bits] w fun e w' => e = .returned (.tuple #[.int .u64 0, .int .i64 0, .int .i64 3]) ∧ w = w' := by
  have H := hid h
  clear h
  go_enter Try.func60, Try.ntmps60
  go_wp2_with (go_at_call 66; refine (last_range _ _ _ _ _ H.out).mono ?_; rintro e w' ⟨rfl, rfl⟩)
  go_ret3
  exact ⟨rfl, rfl⟩

theorem shr_fin : ∀ (t : Fin 256) (j : Fin 9), ((t.val : Int) / 2 ^ min j.val 8 = 0) ↔ ¬ (2 ^ j.val ≤ (t.val : Int)) := by decide +kernel
theorem shr_zero {t r : Int} (h0 : 0 ≤ t) (h1 : t ≤ 255) : (t / 2 ^ min r.toNat 8 != 0) = decide (2 ^ r.toNat ≤ t) := by
  generalize r.toNat = j
  have e : (t / 2 ^ min j 8 = 0) ↔ ¬ (2 ^ j ≤ t) := by
    by_cases hj : j ≤ 8
    · have := shr_fin ⟨t.toNat, by omega⟩ ⟨j, by omega⟩
      dsimp only at this
      rw [Int.toNat_of_nonneg h0] at this
      exact this
    · have h8 : (256 : Int) ≤ 2 ^ j := by
        have := two_pow_le (show 8 ≤ j by omega)
        rw [show (2 : Int) ^ 8 = 256 from by decide] at this
        exact this
      rw [Nat.min_eq_right (by omega), show (2 : Int) ^ 8 = 256 from by decide]
      generalize (2 : Int) ^ j = q at *
      omega
  by_cases h : (2 : Int) ^ j ≤ t
  · rw [decide_eq_true h, bne_iff_ne]
    exact fun hh => e.1 hh h
  · rw [decide_eq_false h, e.2 h]; rfl

section
variable (ao : Option Addr) (n cap : Nat) (xs : List Int) (bits : Int) (w : World) (hr : Rd .u8 w ao n cap xs) (h1 : 1 ≤ bits) (h2 : bits ≤ 64) (m k : Nat) (hm : (m : Int) = (bits + 6) / 7)
include hr h1 h2 hm

theorem U_form (hs : m ≤ xs.length ∧ ∀ i, i < m → 128 ≤ xs.getD i 0) :
    Calls Try.prog 60 #[.slice ao n cap, .int .i64 bits] w fun e w' => e = .returned (.tuple #[.int .u64 0, .int .i64 0, .int .i64 1]) ∧ w = w' := by
  have H := hid (last_form ao n cap xs bits w hr h1 h2 m hm hs)
  clear hs hm
  go_enter Try.func60, Try.ntmps60
  go_wp2_with (go_at_call 66; refine H.out.mono ?_; rintro e w' ⟨rfl, rfl⟩)
  go_ret3
  exact ⟨rfl, rfl⟩
theorem U_more (hs : xs.length < m ∧ ∀ i, i < xs.length → 128 ≤ xs.getD i 0) :
    Calls Try.prog 60 #[.slice ao n cap, .int .i64 bits] w fun e w' => e = .returned (.tuple #[.int .u64 0, .int .i64 0, .int .i64 2]) ∧ w = w' := by
  have H := hid (last_more ao n cap xs bits w hr h1 h2 m hm hs)
  clear hs hm
  go_enter Try.func60, Try.ntmps60
  go_wp2_with (go_at_call 66; refine H.out.mono ?_; rintro e w' ⟨rfl, rfl⟩)
  go_ret3
  exact ⟨rfl, rfl⟩

set_option maxHeartbeats 400000 in
theorem U_ok (hs : Stop xs m k) (hg : goodU xs bits k) :
    Calls Try.prog 60 #[.slice ao n cap, .int .i64 bits] w fun e w' => e = .returned (.tuple #[.int .u64 (val (xs.take (k + 1))), .int .i64 (k + 1), .int .i64 0]) ∧ w = w' := by
  have hb : Bs xs := fun x hx => bounds_u8 (hr.wf x hx)
  have hkm := hs.most
  have hkn := hs.lt
  have hlen := hr.len
  have H := hid (last_stop ao n cap xs bits w hr h1 h2 m k hm hs)
  have hkb : 7 * (k : Int) < bits := by omega
  obtain ⟨hg1, hg2⟩ := (goodU_iff hs hb bits hkb).1 hg
  have hbk := hb.getD k
  obtain ⟨x, hxk⟩ : ∃ x, x = xs.getD k 0 := ⟨_, rfl⟩
  rw [← hxk] at hg1 hg2 hbk
  obtain ⟨r, hr1⟩ : ∃ r, r = bits - 7 * (k : Int) := ⟨_, rfl⟩
  rw [← hr1] at hg2
  have hz := shr_zero (r := r) hbk.1 hbk.2
  rw [decide_eq_false (by omega)] at hz
  obtain ⟨b, off, rfl, hc⟩ := hr.at (by omega)
  have hck := hc k (by omega)
  rw [← hxk] at hck
  have hrr : 1 ≤ r := by omega
  have hr0 : 0 ≤ r := by omega
  have hk9 : k ≤ 9 := by omega
  have hkn' : k < n := by omega
  have hcap : k ≤ cap := by have := hr.le; omega
  have Hroom := hid (show ∀ w, Calls Try.prog 67 #[.int .i64 k, .int .i64 bits] w fun e w' => e = .returned (.int .i64 r) ∧ w = w' from fun w => by rw [hr1]; exact room_any k bits w (by omega) (by omega) (by omega) (by omega))
  have Hjoin := hid (join_any (some ⟨b, off, none⟩) k cap (xs.take k) x w (hr.upto (by omega)) (by omega) (by omega) (by omega))
  have hx128 : x < 128 := by rw [hxk]; exact hs.last
  clear hc hlen hm hr1 hs hb
  have Hxk := hid hxk
  clear hxk
  have hval : val (xs.take (k + 1)) = joinI x (xs.take k) % 18446744073709551616 := by
    have e2 := take_low xs k hkn
    rw [← Hxk.out] at e2
    rw [show xs.take k = low xs k from rfl, joinI_val, e2, low_val]
    have hx2 := hx128
    rw [show x % 128 = x from by omega]
    have hv := val_nonneg (xs.take (k + 1))
    rw [e2, low_val, show x % 128 = x from by omega] at hv
    have hlt : val (xs.take (k + 1)) < 18446744073709551616 := by
      have h64 : (2 : Int) ^ bits.toNat ≤ 2 ^ 64 := two_pow_le (by omega)
      rw [show (2 : Int) ^ 64 = 18446744073709551616 from by decide] at h64
      have := hg.2
      omega
    rw [e2, low_val, show x % 128 = x from by omega] at hlt
    exact (Int.emod_eq_of_lt hv hlt).symm
  have Hval := hid hval
  clear hval hg
  rcases (show k ≤ 0 ∨ (0 < k ∧ x ≠ 0) from by rcases hg1 with h | h <;> omega) with hk0 | ⟨hk0, hx0⟩
  · clear hg1
    have Hjoin0 := hid (join_any (some ⟨b, off, none⟩) 0 cap (xs.take 0) x w (hr.upto (by omega)) (by omega) (by omega) (by omega))
    go_enter Try.func60, Try.ntmps60
    go_wp2_with (first | (go_at_call 66; refine H.out.mono ?_; rintro e w' ⟨rfl, rfl⟩) | (go_at_call 67; refine (Hroom.out _).mono ?_; rintro e w' ⟨rfl, rfl⟩) | (go_at_call 68; refine Hjoin0.out.mono ?_; rintro e w' ⟨rfl, rfl⟩))
    go_ret3
    exact ⟨by rw [Hval.out, show k = 0 from by omega]; rfl, rfl⟩
  · have hx1 : (x == 0) = false := by simpa using hx0
    clear hg1 hx0
    go_enter Try.func60, Try.ntmps60
    go_wp2_with (first | (go_at_call 66; refine H.out.mono ?_; rintro e w' ⟨rfl, rfl⟩) | (go_at_call 67; refine (Hroom.out _).mono ?_; rintro e w' ⟨rfl, rfl⟩) | (go_at_call 68; refine Hjoin.out.mono ?_; rintro e w' ⟨rfl, rfl⟩))
    go_ret3
    exact ⟨by rw [Hval.out]; rfl, rfl⟩

set_option maxHeartbeats 400000 in
theorem U_bad (hs : Stop xs m k) (hg : ¬ goodU xs bits k) :
    Calls Try.prog 60 #[.slice ao n cap, .int .i64 bits] w fun e w' => e = .returned (.tuple #[.int .u64 0, .int .i64 0, .int .i64 1]) ∧ w = w' := by
  have hb : Bs xs := fun x hx => bounds_u8 (hr.wf x hx)
  have hkm := hs.most
  have hkn := hs.lt
  have hlen := hr.len
  have H := hid (last_stop ao n cap xs bits w hr h1 h2 m k hm hs)
  have hkb : 7 * (k : Int) < bits := by omega
  rw [goodU_iff hs hb bits hkb] at hg
  have hbk := hb.getD k
  obtain ⟨x, hxk⟩ : ∃ x, x = xs.getD k 0 := ⟨_, rfl⟩
  rw [← hxk] at hg hbk
  obtain ⟨r, hr1⟩ : ∃ r, r = bits - 7 * (k : Int) := ⟨_, rfl⟩
  rw [← hr1] at hg
  have hz := shr_zero (r := r) hbk.1 hbk.2
  obtain ⟨b, off, rfl, hc⟩ := hr.at (by omega)
  have hck := hc k (by omega)
  rw [← hxk] at hck
  have hrr : 1 ≤ r := by omega
  have hr0 : 0 ≤ r := by omega
  have hk9 : k ≤ 9 := by omega
  have hkn' : k < n := by omega
  have Hroom := hid (show ∀ w, Calls Try.prog 67 #[.int .i64 k, .int .i64 bits] w fun e w' => e = .returned (.int .i64 r) ∧ w = w' from fun w => by rw [hr1]; exact room_any k bits w (by omega) (by omega) (by omega) (by omega))
  clear hc hlen hm hr1 hs hb hxk
  by_cases hq : x < 2 ^ r.toNat
  · have h0 : 0 < k ∧ x = 0 := by
      by_cases hk : k = 0
      · exact absurd ⟨.inl hk, hq⟩ hg
      · by_cases hx : x = 0
        · exact ⟨by omega, hx⟩
        · exact absurd ⟨.inr hx, hq⟩ hg
    obtain ⟨hk0, rfl⟩ := h0
    clear hg hq hz
    go_enter Try.func60, Try.ntmps60
    go_wp2_with (first | (go_at_call 66; refine H.out.mono ?_; rintro e w' ⟨rfl, rfl⟩) | (go_at_call 67; refine (Hroom.out _).mono ?_; rintro e w' ⟨rfl, rfl⟩))
    go_ret3
    exact ⟨rfl, rfl⟩
  · rw [decide_eq_true (by omega)] at hz
    have hx0 : x ≠ 0 := by
      rintro rfl
      simp at hz
    clear hg hq
    by_cases hk0 : k ≤ 0
    · clear hx0
      go_enter Try.func60, Try.ntmps60
      go_wp2_with (first | (go_at_call 66; refine H.out.mono ?_; rintro e w' ⟨rfl, rfl⟩) | (go_at_call 67; refine (Hroom.out _).mono ?_; rintro e w' ⟨rfl, rfl⟩))
      go_ret3
      exact ⟨rfl, rfl⟩
    · have hx1 : (x == 0) = false := by simpa using hx0
      clear hx0
      go_enter Try.func60, Try.ntmps60
      go_wp2_with (first | (go_at_call 66; refine H.out.mono ?_; rintro e w' ⟨rfl, rfl⟩) | (go_at_call 67; refine (Hroom.out _).mono ?_; rintro e w' ⟨rfl, rfl⟩))
      go_ret3
      exact ⟨rfl, rfl⟩
end
end Go.Proofs.Ytnbegmlbkjjggaa
