import Derived.Test.YtfambbpggodlkaaLebRef
import Derived.Test.YtfambbpggodlkaaLebS
namespace Go.Proofs.Ytfambbpggodlkaa
open Go.RowKit

set_option maxHeartbeats 800000 in
theorem whole_go (ao : Option Addr) (n cap : Nat) (xs : List Int) (bits : Int) (w : World) (hr : Rd .u8 w ao n cap xs) (h1 : 1 ≤ bits) (h2 : bits ≤ 64) (m : Nat) (hm : (m : Int) = (bits + 6) / 7) :
    Calls Try.prog 79 #[.slice ao n cap, .int .i64 bits] w fun e w' => w = w' ∧
      ((∃ k, Stop xs m k ∧ e = .returned (.tuple #[.int .i64 (k + 1), .int .i64 0])) ∨ ((m ≤ xs.length ∧ ∀ i, i < m → 128 ≤ xs.getD i 0) ∧ e = .returned (.tuple #[.int .i64 0, .int .i64 1])) ∨
       ((xs.length < m ∧ ∀ i, i < xs.length → 128 ≤ xs.getD i 0) ∧ e = .returned (.tuple #[.int .i64 0, .int .i64 2]))) := by
  have Hm := hid hm
  have hm1 : 1 ≤ m := by omega
  have hm2 : m ≤ 10 := by omega
  have hx := hr.len
  have Hx := hid hx
  have hb : Bs xs := fun x hx => bounds_u8 (hr.wf x hx)
  clear hm hx
  have hn63 : n ≤ 9223372036854775807 := by have h1 := hr.le; have h2 := hr.max; unfold maxLen at h2; omega
  go_enter Try.func79, Try.ntmps79
  go_wp2
  rw [← Hm.out]
  go_loop [7] (fun i => ∃ k : Nat, i = .int .i64 k ∧ k ≤ m ∧ k ≤ n ∧ Hid (∀ i, i < k → 128 ≤ xs.getD i 0)) (fun i => m - (intOf i).toNat)
  case atStart => exact ⟨0, rfl, Nat.zero_le _, Nat.zero_le _, fun i hi => by omega⟩
  case round =>
    obtain ⟨k, rfl, hkm, hkn, Hall⟩ := hrel
    rcases (show k = m ∨ (k < m ∧ k = n) ∨ (k < m ∧ k < n) from by omega) with e1 | ⟨e1, e2⟩ | ⟨e1, e2⟩
    · subst e1
      by_cases e2 : k < n
      · go_wp2
        go_ret2
        exact ⟨rfl, .inr (.inl ⟨⟨by rw [Hx.out]; omega, Hall.out⟩, rfl⟩)⟩
      · go_wp2
        go_ret2
        exact ⟨rfl, .inr (.inl ⟨⟨by rw [Hx.out]; omega, Hall.out⟩, rfl⟩)⟩
    · subst e2
      go_wp2
      go_ret2
      exact ⟨rfl, .inr (.inr ⟨⟨by rw [Hx.out]; omega, fun i hi => Hall.out i (by rw [Hx.out] at hi; exact hi)⟩, rfl⟩)⟩
    · obtain ⟨b, off, rfl, hc⟩ := hr.at (by omega)
      have hck := hc k (by omega)
      have hbk := hb.getD k
      obtain ⟨x, hxk⟩ : ∃ x, x = xs.getD k 0 := ⟨_, rfl⟩
      rw [← hxk] at hck hbk
      have Hxk := hid hxk
      clear hc hxk hr
      by_cases e3 : 128 ≤ x
      · go_wp2
        go_round
        case rel =>
          refine ⟨k + 1, by go_num, by omega, by omega, ?_⟩
          show ∀ i, i < k + 1 → 128 ≤ xs.getD i 0
          intro i hi
          by_cases e : i = k
          · rw [e, ← Hxk.out]; exact e3
          · exact Hall.out i (by omega)
        case measure => simp [intOf]; omega
      · go_wp2
        go_ret2
        exact ⟨rfl, .inl ⟨k, ⟨by rw [Hx.out]; omega, by omega, Hall.out, by rw [← Hxk.out]; omega⟩, rfl⟩⟩
section
variable (ao : Option Addr) (n cap : Nat) (xs : List Int) (bits : Int) (w : World) (hr : Rd .u8 w ao n cap xs) (h1 : 1 ≤ bits) (h2 : bits ≤ 64) (m : Nat) (hm : (m : Int) = (bits + 6) / 7)
include hr h1 h2 hm
theorem whole_stop (k : Nat) (hs : Stop xs m k) :
    Calls Try.prog 79 #[.slice ao n cap, .int .i64 bits] w fun e w' => e = .returned (.tuple #[.int .i64 (k + 1), .int .i64 0]) ∧ w = w' := by
  refine (whole_go ao n cap xs bits w hr h1 h2 m hm).mono ?_
  rintro e w' ⟨rfl, ⟨k', hk, rfl⟩ | ⟨⟨h, h'⟩, rfl⟩ | ⟨⟨h, h'⟩, rfl⟩⟩
  · rw [hs.one hk]; exact ⟨rfl, rfl⟩
  · have := h' k hs.most; have := hs.last; omega
  · have := h' k hs.lt; have := hs.last; omega
theorem whole_form (hs : m ≤ xs.length ∧ ∀ i, i < m → 128 ≤ xs.getD i 0) :
    Calls Try.prog 79 #[.slice ao n cap, .int .i64 bits] w fun e w' => e = .returned (.tuple #[.int .i64 0, .int .i64 1]) ∧ w = w' := by
  refine (whole_go ao n cap xs bits w hr h1 h2 m hm).mono ?_
  rintro e w' ⟨rfl, ⟨k, hk, rfl⟩ | ⟨⟨h, h'⟩, rfl⟩ | ⟨⟨h, h'⟩, rfl⟩⟩
  · have := hs.2 k hk.most; have := hk.last; omega
  · exact ⟨rfl, rfl⟩
  · omega
theorem whole_more (hs : xs.length < m ∧ ∀ i, i < xs.length → 128 ≤ xs.getD i 0) :
    Calls Try.prog 79 #[.slice ao n cap, .int .i64 bits] w fun e w' => e = .returned (.tuple #[.int .i64 0, .int .i64 2]) ∧ w = w' := by
  refine (whole_go ao n cap xs bits w hr h1 h2 m hm).mono ?_
  rintro e w' ⟨rfl, ⟨k, hk, rfl⟩ | ⟨⟨h, h'⟩, rfl⟩ | ⟨⟨h, h'⟩, rfl⟩⟩
  · have := hs.2 k hk.lt; have := hk.last; omega
  · omega
  · exact ⟨rfl, rfl⟩
end
end Go.Proofs.Ytfambbpggodlkaa
