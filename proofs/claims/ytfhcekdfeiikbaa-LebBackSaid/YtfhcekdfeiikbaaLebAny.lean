import Derived.Test.YtfhcekdfeiikbaaLebBegun
import Derived.Test.YtfhcekdfeiikbaaShort
namespace Go.Proofs.Ytfhcekdfeiikbaa
open Go.RowKit

/-- What the four of them answer of the same bytes. -/
def Same (P : Program) (ao : Option Addr) (n cap : Nat) (bits : Int) (w : World) : Prop :=
  ∃ x k e y j g : Int,
    (∀ w', Below w.heap.size w w' → Calls P 15 #[.slice ao n cap, .int .i64 bits] w' fun e' w'' => e' = .returned (.tuple #[.int .u64 x, .int .i64 k, .int .i64 e]) ∧ w' = w'') ∧
    (∀ w', Below w.heap.size w w' → Calls P 17 #[.slice ao n cap, .int .i64 bits] w' fun e' w'' => e' = .returned (.tuple #[.int .u64 x, .int .i64 k, .int .i64 e]) ∧ Below w'.heap.size w' w'') ∧
    (∀ w', Below w.heap.size w w' → Calls P 16 #[.slice ao n cap, .int .i64 bits] w' fun e' w'' => e' = .returned (.tuple #[.int .i64 y, .int .i64 j, .int .i64 g]) ∧ w' = w'') ∧
    (∀ w', Below w.heap.size w w' → Calls P 18 #[.slice ao n cap, .int .i64 bits] w' fun e' w'' => e' = .returned (.tuple #[.int .i64 y, .int .i64 j, .int .i64 g]) ∧ Below w'.heap.size w' w'')

theorem same_any (ao : Option Addr) (n cap : Nat) (xs : List Int) (bits : Int) (w : World) (hr : Rd .u8 w ao n cap xs) : Same Try.prog ao n cap bits w := by
  have quiet : ∀ {f args r} {w' : World}, (Calls Try.prog f args w' fun e' w'' => e' = .returned r ∧ w' = w'') → Calls Try.prog f args w' fun e' w'' => e' = .returned r ∧ Below w'.heap.size w' w'' :=
    fun h => h.mono fun e' w'' ⟨he, hw⟩ => ⟨he, by rw [← hw]; exact Below.refl _ _⟩
  by_cases hb : bits < 1 ∨ 64 < bits
  · exact ⟨0, 0, 3, 0, 0, 3, fun w' _ => U_range ao n cap bits w' hb, fun w' _ => quiet (GetU_range ao n cap bits w' hb), fun w' _ => S_range ao n cap bits w' hb, fun w' _ => quiet (GetS_range ao n cap bits w' hb)⟩
  · obtain ⟨m, hm⟩ : ∃ m : Nat, (m : Int) = (bits + 6) / 7 := ⟨((bits + 6) / 7).toNat, by omega⟩
    have h1 : 1 ≤ bits := by omega
    have h2 : bits ≤ 64 := by omega
    rcases three xs m with ⟨k, hs⟩ | hs | hs
    · have hU : ∃ x c e : Int, (∀ w', Below w.heap.size w w' → Calls Try.prog 15 #[.slice ao n cap, .int .i64 bits] w' fun e' w'' => e' = .returned (.tuple #[.int .u64 x, .int .i64 c, .int .i64 e]) ∧ w' = w'') ∧
          (∀ w', Below w.heap.size w w' → Calls Try.prog 17 #[.slice ao n cap, .int .i64 bits] w' fun e' w'' => e' = .returned (.tuple #[.int .u64 x, .int .i64 c, .int .i64 e]) ∧ Below w'.heap.size w' w'') := by
        by_cases hg : goodU xs bits k
        · exact ⟨_, _, _, fun w' h => U_ok ao n cap xs bits w' (hr.below h) h1 h2 m k hm hs hg, fun w' h => (GetU_go ao n cap xs bits w' (hr.below h) h1 h2 m k hm hs).mono fun e' w'' ⟨p1, _, p3⟩ => ⟨p1 hg, p3⟩⟩
        · exact ⟨_, _, _, fun w' h => U_bad ao n cap xs bits w' (hr.below h) h1 h2 m k hm hs hg, fun w' h => (GetU_go ao n cap xs bits w' (hr.below h) h1 h2 m k hm hs).mono fun e' w'' ⟨_, p2, p3⟩ => ⟨p2 hg, p3⟩⟩
      have hS : ∃ x c e : Int, (∀ w', Below w.heap.size w w' → Calls Try.prog 16 #[.slice ao n cap, .int .i64 bits] w' fun e' w'' => e' = .returned (.tuple #[.int .i64 x, .int .i64 c, .int .i64 e]) ∧ w' = w'') ∧
          (∀ w', Below w.heap.size w w' → Calls Try.prog 18 #[.slice ao n cap, .int .i64 bits] w' fun e' w'' => e' = .returned (.tuple #[.int .i64 x, .int .i64 c, .int .i64 e]) ∧ Below w'.heap.size w' w'') := by
        by_cases hg : goodS xs bits k
        · exact ⟨_, _, _, fun w' h => S_ok ao n cap xs bits w' (hr.below h) h1 h2 m k hm hs hg, fun w' h => (GetS_go ao n cap xs bits w' (hr.below h) h1 h2 m k hm hs).mono fun e' w'' ⟨p1, _, p3⟩ => ⟨p1 hg, p3⟩⟩
        · exact ⟨_, _, _, fun w' h => S_bad ao n cap xs bits w' (hr.below h) h1 h2 m k hm hs hg, fun w' h => (GetS_go ao n cap xs bits w' (hr.below h) h1 h2 m k hm hs).mono fun e' w'' ⟨_, p2, p3⟩ => ⟨p2 hg, p3⟩⟩
      obtain ⟨x, c, e, u1, u2⟩ := hU
      obtain ⟨y, d, g, s1, s2⟩ := hS
      exact ⟨x, c, e, y, d, g, u1, u2, s1, s2⟩
    · exact ⟨0, 0, 1, 0, 0, 1, fun w' h => U_form ao n cap xs bits w' (hr.below h) h1 h2 m hm hs, fun w' h => quiet (GetU_form ao n cap xs bits w' (hr.below h) h1 h2 m hm hs), fun w' h => S_form ao n cap xs bits w' (hr.below h) h1 h2 m hm hs, fun w' h => quiet (GetS_form ao n cap xs bits w' (hr.below h) h1 h2 m hm hs)⟩
    · exact ⟨0, 0, 2, 0, 0, 2, fun w' h => U_more ao n cap xs bits w' (hr.below h) h1 h2 m hm hs, fun w' h => quiet (GetU_more ao n cap xs bits w' (hr.below h) h1 h2 m hm hs), fun w' h => S_more ao n cap xs bits w' (hr.below h) h1 h2 m hm hs, fun w' h => quiet (GetS_more ao n cap xs bits w' (hr.below h) h1 h2 m hm hs)⟩

set_option maxRecDepth 100000 in
set_option maxHeartbeats 800000 in
theorem lebAny_walk (ao : Option Addr) (n cap : Nat) (xs : List Int) (bits : Int) (w : World) (hr : Rd .u8 w ao n cap xs) :
    Calls Try.prog 4 #[.slice ao n cap, .int .i64 bits] w fun e w' => e = .returned (.bool true) ∧ Below w.heap.size w w' := by
  have hS := hid (same_any ao (min n 20) cap _ bits w (hr.short 20))
  obtain ⟨x, k, e, y, j, g, u1, u2, s1, s2⟩ := hS.out
  have U1 := hid u1
  have U2 := hid u2
  have S1 := hid s1
  have S2 := hid s2
  clear u1 u2 s1 s2 hS
  have hle := hr.le
  have hc63 := hr.cap63
  obtain ⟨q, hq⟩ : ∃ q, q = min n 20 := ⟨_, rfl⟩
  have HS := hid (short_any ao n cap 20 · hle hc63 (by omega))
  rw [← hq] at U1 U2 S1 S2 HS
  clear hq hr
  go_enter Try.func4, Try.ntmps4
  go_wp2_with fail
  refine (begun_any w).mono ?_
  rintro e w1 ⟨rfl, b1⟩
  go_wp2_with fail
  refine (HS.out w1).mono ?_
  rintro e w' ⟨rfl, rfl⟩
  go_wp2_with fail
  refine (U1.out w1 b1).mono ?_
  rintro e w' ⟨rfl, rfl⟩
  go_wp2_with fail
  refine (U2.out w1 b1).mono ?_
  rintro e w2 ⟨rfl, b2⟩
  have B2 := b1.trans (b2.mono b1.size)
  go_wp2_with fail
  refine (S1.out w2 B2).mono ?_
  rintro e w' ⟨rfl, rfl⟩
  go_wp2_with fail
  refine (S2.out w2 B2).mono ?_
  rintro e w3 ⟨rfl, b3⟩
  have B3 := B2.trans (b3.mono B2.size)
  go_wp2_with fail
  go_ret
  exact ⟨by simp, B3⟩
end Go.Proofs.Ytfhcekdfeiikbaa
