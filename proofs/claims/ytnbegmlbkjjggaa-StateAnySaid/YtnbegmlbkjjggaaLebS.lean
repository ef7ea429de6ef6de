import Derived.Test.YtnbegmlbkjjggaaLebU
namespace Go.Proofs.Ytnbegmlbkjjggaa
open Go.RowKit

theorem ext_bounds (x : Int) : -64 ≤ ext x ∧ ext x ≤ 63 := by unfold ext; split <;> omega
theorem sshr_fin : ∀ (t : Fin 256) (j : Fin 9), (ext (t.val : Int) / 2 ^ min j.val 8 = ext (t.val : Int) / 128) ↔ (-2 ^ j.val ≤ ext (t.val : Int) ∧ ext (t.val : Int) < 2 ^ j.val) := by decide +kernel
theorem sshr_zero {t r : Int} (h0 : 0 ≤ t) (h1 : t ≤ 255) : (ext t / 2 ^ min r.toNat 8 != ext t / 128) = !decide (-2 ^ r.toNat ≤ ext t ∧ ext t < 2 ^ r.toNat) := by
  generalize r.toNat = j
  have e : (ext t / 2 ^ min j 8 = ext t / 128) ↔ (-2 ^ j ≤ ext t ∧ ext t < 2 ^ j) := by
    by_cases hj : j ≤ 8
    · have := sshr_fin ⟨t.toNat, by omega⟩ ⟨j, by omega⟩
      dsimp only at this
      rw [Int.toNat_of_nonneg h0] at this
      exact this
    · have h8 : (256 : Int) ≤ 2 ^ j := by
        have := two_pow_le (show 8 ≤ j by omega)
        rw [show (2 : Int) ^ 8 = 256 from by decide] at this
        exact this
      have hb := ext_bounds t
      rw [Nat.min_eq_right (by omega), show (2 : Int) ^ 8 = 256 from by decide]
      generalize (2 : Int) ^ j = q at *
      omega
  by_cases h : (-2 ^ j ≤ ext t ∧ ext t < 2 ^ j)
  · rw [decide_eq_true h, e.2 h]; simp
  · rw [decide_eq_false h, Bool.not_false, bne_iff_ne]
    exact fun hh => h (e.1 hh)
theorem red_fin : ∀ (x : Fin 128) (y : Fin 256), (ext (x.val : Int) = ext (y.val : Int) / 128) ↔ (((x.val : Int) = 0 ∧ (y.val : Int) % 128 < 64) ∨ ((x.val : Int) = 127 ∧ 64 ≤ (y.val : Int) % 128)) := by decide +kernel
theorem red_iff {x y : Int} (h0 : 0 ≤ x) (h1 : x < 128) (g0 : 0 ≤ y) (g1 : y ≤ 255) : (ext x = ext y / 128) ↔ ((x = 0 ∧ y % 128 < 64) ∨ (x = 127 ∧ 64 ≤ y % 128)) := by
  have := red_fin ⟨x.toNat, by omega⟩ ⟨y.toNat, by omega⟩
  dsimp only at this
  rw [Int.toNat_of_nonneg h0, Int.toNat_of_nonneg g0] at this
  exact this

theorem S_range (ao : Option Addr) (n cap : Nat) (bits : Int) (w : World) (h : bits < 1 ∨ 64 < bits) :
    Calls Try.prog 69 #[.slice ao n cap, .int .i64 bits] w fun e w' => e = .returned (.tuple #[.int .i64 0, .int .i64 0, .int .i64 3]) ∧ w = w' := by
  have H := hid h
  clear h
  go_enter Try.func69, Try.ntmps69
  go_wp2_with (go_at_call 66; refine (last_range _ _ _ _ _ H.out).mono ?_; rintro e w' ⟨rfl, rfl⟩)
  go_ret3
  exact ⟨rfl, rfl⟩

section
variable (ao : Option Addr) (n cap : Nat) (xs : List Int) (bits : Int) (w : World) (hr : Rd .u8 w ao n cap xs) (h1 : 1 ≤ bits) (h2 : bits ≤ 64) (m k : Nat) (hm : (m : Int) = (bits + 6) / 7)
include hr h1 h2 hm

theorem S_form (hs : m ≤ xs.length ∧ ∀ i, i < m → 128 ≤ xs.getD i 0) :
    Calls Try.prog 69 #[.slice ao n cap, .int .i64 bits] w fun e w' => e = .returned (.tuple #[.int .i64 0, .int .i64 0, .int .i64 1]) ∧ w = w' := by
  have H := hid (last_form ao n cap xs bits w hr h1 h2 m hm hs)
  clear hs hm
  go_enter Try.func69, Try.ntmps69
  go_wp2_with (go_at_call 66; refine H.out.mono ?_; rintro e w' ⟨rfl, rfl⟩)
  go_ret3
  exact ⟨rfl, rfl⟩
theorem S_more (hs : xs.length < m ∧ ∀ i, i < xs.length → 128 ≤ xs.getD i 0) :
    Calls Try.prog 69 #[.slice ao n cap, .int .i64 bits] w fun e w' => e = .returned (.tuple #[.int .i64 0, .int .i64 0, .int .i64 2]) ∧ w = w' := by
  have H := hid (last_more ao n cap xs bits w hr h1 h2 m hm hs)
  clear hs hm
  go_enter Try.func69, Try.ntmps69
  go_wp2_with (go_at_call 66; refine H.out.mono ?_; rintro e w' ⟨rfl, rfl⟩)
  go_ret3
  exact ⟨rfl, rfl⟩

set_option maxHeartbeats 800000 in
theorem S_ok (hs : Stop xs m k) (hg : goodS xs bits k) :
    Calls Try.prog 69 #[.slice ao n cap, .int .i64 bits] w fun e w' => e = .returned (.tuple #[.int .i64 (sval (xs.take (k + 1))), .int .i64 (k + 1), .int .i64 0]) ∧ w = w' := by
  have hb : Bs xs := fun x hx => bounds_u8 (hr.wf x hx)
  have hkm := hs.most
  have hkn := hs.lt
  have hlen := hr.len
  have H := hid (last_stop ao n cap xs bits w hr h1 h2 m k hm hs)
  have hkb : 7 * (k : Int) < bits := by omega
  have hg' := goodS_iff hs bits hkb
  have hbk := hb.getD k
  have hby := hb.getD (k - 1)
  obtain ⟨x, hxk⟩ : ∃ x, x = xs.getD k 0 := ⟨_, rfl⟩
  obtain ⟨y, hyk⟩ : ∃ y, y = xs.getD (k - 1) 0 := ⟨_, rfl⟩
  rw [← hxk, ← hyk] at hg'
  rw [← hxk] at hbk
  rw [← hyk] at hby
  obtain ⟨r, hr1⟩ : ∃ r, r = bits - 7 * (k : Int) - 1 := ⟨_, rfl⟩
  rw [← hr1] at hg'
  have hz := sshr_zero (r := r) hbk.1 hbk.2
  obtain ⟨b, off, rfl, hc⟩ := hr.at (by omega)
  have hck := hc k (by omega)
  have hcy : 0 < k → w.cell? ⟨b, off + (k - 1), none⟩ = some (.int .u8 y) := fun hk => by rw [hyk]; exact hc (k - 1) (by omega)
  rw [← hxk] at hck
  have hr0 : 0 ≤ r := by omega
  have hr64 : r ≤ 64 := by omega
  have hk9 : k ≤ 9 := by omega
  have hkn' : k < n := by omega
  have hcap : k ≤ cap := by have := hr.le; omega
  have hx128 : x < 128 := by rw [hxk]; exact hs.last
  have hred := red_iff hbk.1 hx128 hby.1 hby.2
  have hex := ext_bounds x
  have hey := ext_bounds y
  have Hroom := hid (show ∀ w, Calls Try.prog 67 #[.int .i64 k, .int .i64 bits] w fun e w' => e = .returned (.int .i64 (r + 1)) ∧ w = w' from fun w => by rw [hr1, show bits - 7 * (k : Int) - 1 + 1 = bits - 7 * k from by omega]; exact room_any k bits w (by omega) (by omega) (by omega) (by omega))
  have hval : wrap64 (joinI (IntKind.u64.wrap (ext x)) (xs.take k) % 18446744073709551616) = sval (xs.take (k + 1)) := by
    rw [IntKind.wrap_u64]
    have e2 := take_low xs k hkn
    rw [← hxk] at e2
    obtain ⟨g2, g3⟩ := hg.2
    rw [e2, low_sval] at g2 g3 ⊢
    have h64 : (2 : Int) ^ (bits - 1).toNat ≤ 2 ^ 63 := two_pow_le (by omega)
    rw [show (2 : Int) ^ 63 = 9223372036854775808 from by decide] at h64
    rw [show xs.take k = low xs k from rfl, joinI_val]
    rw [Int.add_emod, Int.mul_emod, Int.emod_emod, ← Int.mul_emod, ← Int.add_emod]
    unfold wrap64
    omega
  have Hval := hid hval
  have hgood := hg'.1 hg
  obtain ⟨gr, gz⟩ := hgood
  rw [decide_eq_true gz] at hz
  clear hc hlen hm hr1 hs hb hxk hyk hval hg' hg gz
  by_cases hk0 : k ≤ 0
  · clear gr hred hcy
    go_enter Try.func69, Try.ntmps69
    go_wp2_with (first | (go_at_call 66; refine H.out.mono ?_; rintro e w' ⟨rfl, rfl⟩) | (go_at_call 70; refine (extend_any _ _ (by omega) (by omega)).mono ?_; rintro e w' ⟨rfl, rfl⟩) | (go_at_call 67; refine (Hroom.out _).mono ?_; rintro e w' ⟨rfl, rfl⟩) | (go_at_call 68; refine (join_any _ 0 cap (xs.take 0) _ w (hr.upto (by omega)) (wrap_u64_nonneg _) (by rw [IntKind.wrap_u64]; omega) (by omega)).mono ?_; rintro e w' ⟨rfl, rfl⟩))
    go_ret3
    exact ⟨by rw [← Hval.out, show k = 0 from by omega]; rfl, rfl⟩
  · have hne : (ext x == ext y / 128) = false := by
      rw [beq_eq_false_iff_ne]
      intro hh
      rcases gr with g | ⟨g1, g2⟩
      · omega
      · rcases hred.1 hh with h | h
        · exact g1 h
        · exact g2 h
    have hcy' := hcy (by omega)
    clear gr hred hcy
    go_enter Try.func69, Try.ntmps69
    go_wp2_with (first | (go_at_call 66; refine H.out.mono ?_; rintro e w' ⟨rfl, rfl⟩) | (go_at_call 70; refine (extend_any _ _ (by omega) (by omega)).mono ?_; rintro e w' ⟨rfl, rfl⟩) | (go_at_call 67; refine (Hroom.out _).mono ?_; rintro e w' ⟨rfl, rfl⟩) | (go_at_call 68; refine (join_any _ k cap (xs.take k) _ w (hr.upto (by omega)) (wrap_u64_nonneg _) (by rw [IntKind.wrap_u64]; omega) (by omega)).mono ?_; rintro e w' ⟨rfl, rfl⟩))
    go_ret3
    exact ⟨by rw [← Hval.out]; rfl, rfl⟩

set_option maxHeartbeats 800000 in
theorem S_bad (hs : Stop xs m k) (hg : ¬ goodS xs bits k) :
    Calls Try.prog 69 #[.slice ao n cap, .int .i64 bits] w fun e w' => e = .returned (.tuple #[.int .i64 0, .int .i64 0, .int .i64 1]) ∧ w = w' := by
  have hb : Bs xs := fun x hx => bounds_u8 (hr.wf x hx)
  have hkm := hs.most
  have hkn := hs.lt
  have hlen := hr.len
  have H := hid (last_stop ao n cap xs bits w hr h1 h2 m k hm hs)
  have hkb : 7 * (k : Int) < bits := by omega
  have hg' := goodS_iff hs bits hkb
  have hbk := hb.getD k
  have hby := hb.getD (k - 1)
  obtain ⟨x, hxk⟩ : ∃ x, x = xs.getD k 0 := ⟨_, rfl⟩
  obtain ⟨y, hyk⟩ : ∃ y, y = xs.getD (k - 1) 0 := ⟨_, rfl⟩
  rw [← hxk, ← hyk] at hg'
  rw [← hxk] at hbk
  rw [← hyk] at hby
  obtain ⟨r, hr1⟩ : ∃ r, r = bits - 7 * (k : Int) - 1 := ⟨_, rfl⟩
  rw [← hr1] at hg'
  have hz := sshr_zero (r := r) hbk.1 hbk.2
  obtain ⟨b, off, rfl, hc⟩ := hr.at (by omega)
  have hck := hc k (by omega)
  have hcy : 0 < k → w.cell? ⟨b, off + (k - 1), none⟩ = some (.int .u8 y) := fun hk => by rw [hyk]; exact hc (k - 1) (by omega)
  rw [← hxk] at hck
  have hr0 : 0 ≤ r := by omega
  have hr64 : r ≤ 64 := by omega
  have hk9 : k ≤ 9 := by omega
  have hkn' : k < n := by omega
  have hcap : k ≤ cap := by have := hr.le; omega
  have hx128 : x < 128 := by rw [hxk]; exact hs.last
  have hred := red_iff hbk.1 hx128 hby.1 hby.2
  have hex := ext_bounds x
  have hey := ext_bounds y
  have Hroom := hid (show ∀ w, Calls Try.prog 67 #[.int .i64 k, .int .i64 bits] w fun e w' => e = .returned (.int .i64 (r + 1)) ∧ w = w' from fun w => by rw [hr1, show bits - 7 * (k : Int) - 1 + 1 = bits - 7 * k from by omega]; exact room_any k bits w (by omega) (by omega) (by omega) (by omega))
  rw [hg'] at hg
  clear hc hlen hm hr1 hs hb hxk hyk hg'
  by_cases hk0 : k ≤ 0
  · have gz : ¬ (-2 ^ r.toNat ≤ ext x ∧ ext x < 2 ^ r.toNat) := fun gz => hg ⟨.inl (by omega), gz⟩
    rw [decide_eq_false gz] at hz
    clear hg hred hcy gz
    go_enter Try.func69, Try.ntmps69
    go_wp2_with (first | (go_at_call 66; refine H.out.mono ?_; rintro e w' ⟨rfl, rfl⟩) | (go_at_call 70; refine (extend_any _ _ (by omega) (by omega)).mono ?_; rintro e w' ⟨rfl, rfl⟩) | (go_at_call 67; refine (Hroom.out _).mono ?_; rintro e w' ⟨rfl, rfl⟩) )
    go_ret3
    exact ⟨rfl, rfl⟩
  · have hcy' := hcy (by omega)
    clear hcy
    by_cases hq : ext x = ext y / 128
    · have hne : (ext x == ext y / 128) = true := by rw [beq_iff_eq]; exact hq
      clear hq hg hred hz
      go_enter Try.func69, Try.ntmps69
      go_wp2_with (first | (go_at_call 66; refine H.out.mono ?_; rintro e w' ⟨rfl, rfl⟩) | (go_at_call 70; refine (extend_any _ _ (by omega) (by omega)).mono ?_; rintro e w' ⟨rfl, rfl⟩) | (go_at_call 67; refine (Hroom.out _).mono ?_; rintro e w' ⟨rfl, rfl⟩) )
      go_ret3
      exact ⟨rfl, rfl⟩
    · have hne : (ext x == ext y / 128) = false := by rw [beq_eq_false_iff_ne]; exact hq
      have gz : ¬ (-2 ^ r.toNat ≤ ext x ∧ ext x < 2 ^ r.toNat) := fun gz => hg ⟨.inr ⟨fun h => hq (hred.2 (.inl h)), fun h => hq (hred.2 (.inr h))⟩, gz⟩
      rw [decide_eq_false gz] at hz
      clear hq hg hred gz
      go_enter Try.func69, Try.ntmps69
      go_wp2_with (first | (go_at_call 66; refine H.out.mono ?_; rintro e w' ⟨rfl, rfl⟩) | (go_at_call 70; refine (extend_any _ _ (by omega) (by omega)).mono ?_; rintro e w' ⟨rfl, rfl⟩) | (go_at_call 67; refine (Hroom.out _).mono ?_; rintro e w' ⟨rfl, rfl⟩) )
      go_ret3
      exact ⟨rfl, rfl⟩
end
end Go.Proofs.Ytnbegmlbkjjggaa
