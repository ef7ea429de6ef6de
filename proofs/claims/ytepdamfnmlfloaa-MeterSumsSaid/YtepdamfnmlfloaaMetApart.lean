/- Two marks that go on alike from unlike ones stay unlike. -/
import Derived.Test.YtepdamfnmlfloaaMetMark
namespace Go.Proofs.Ytepdamfnmlfloaa
open Go.RowKit

theorem apart_d (x y u v d k1 M : Int) (e1 : x - 2 * y + d + 1 - (u - 2 * v + d + 1) = M * k1) : (x - u) - 2 * (y - v) = M * k1 := by omega
theorem apart_e (x y u v d k1 M : Int) (e1 : 2 * x + y + d - (2 * u + v + d) = M * k1) : 2 * (x - u) + (y - v) = M * k1 := by omega
theorem apart_s (p q k1 k2 M : Int) (f1 : p - 2 * q = M * k1) (f2 : 2 * p + q = M * k2) : 5 * p = M * (k1 + 2 * k2) := by
  have e : M * (k1 + 2 * k2) = M * k1 + 2 * (M * k2) := by rw [Int.mul_add, Int.mul_left_comm M 2 k2]
  rw [e, ← f1, ← f2]
  omega
theorem apart_p (p s : Int) (f3 : 5 * p = 1000003 * s) (b1 : -1000002 ≤ p ∧ p ≤ 1000002) : p = 0 := by
  have h1 : 5 * p ≤ 5000010 := by clear f3; omega
  have h2 : -5000010 ≤ 5 * p := by clear f3; omega
  have h5 : (5 * p) % 5 = 0 := by clear f3; omega
  rw [f3] at h1 h2 h5
  have h3 : s ≤ 4 := by clear f3 h5; omega
  have h4 : -4 ≤ s := by clear f3 h5; omega
  clear h1 h2
  have : s = 0 := by
    rcases (show s = -4 ∨ s = -3 ∨ s = -2 ∨ s = -1 ∨ s = 0 ∨ s = 1 ∨ s = 2 ∨ s = 3 ∨ s = 4 by clear f3 h5; omega) with rfl | rfl | rfl | rfl | rfl | rfl | rfl | rfl | rfl <;> first | rfl | (exfalso; revert h5; decide)
  subst this
  omega
theorem apart_q (q k : Int) (b2 : -1000002 ≤ q ∧ q ≤ 1000002) (f2 : q = 1000003 * k) : q = 0 := by omega

theorem mark_inj (x y u v d r : Int) (hx : 0 ≤ x ∧ x ≤ 1000002) (hy : 0 ≤ y ∧ y ≤ 1000002) (hu : 0 ≤ u ∧ u ≤ 1000002) (hv : 0 ≤ v ∧ v ≤ 1000002) :
    ((x - 2 * y + d + 1) % 1000003 = (u - 2 * v + d + 1) % 1000003 ∧ (2 * x + y + r) % 1000003 = (2 * u + v + r) % 1000003) ↔ (x = u ∧ y = v) := by
  constructor
  · rintro ⟨h1, h2⟩
    rw [Int.emod_eq_emod_iff_emod_sub_eq_zero] at h1 h2
    obtain ⟨k1, e1⟩ := Int.dvd_of_emod_eq_zero h1
    obtain ⟨k2, e2⟩ := Int.dvd_of_emod_eq_zero h2
    clear h1 h2
    have f1 := apart_d _ _ _ _ _ _ _ e1
    have f2 := apart_e _ _ _ _ _ _ _ e2
    clear e1 e2
    have hp : x - u = 0 := apart_p _ _ (apart_s _ _ _ _ _ f1 f2) (by clear f1 f2; omega)
    rw [hp] at f2
    have hq : y - v = 0 := apart_q _ k2 (by clear f1 f2; omega) (by rw [← f2]; clear f1 f2; omega)
    clear f1 f2
    omega
  · rintro ⟨rfl, rfl⟩
    exact ⟨rfl, rfl⟩

set_option maxRecDepth 20000 in
theorem meterApart_walk (a b c d fn n : Int) (w : World) :
    Calls Try.prog 7 #[.int .i64 a, .int .i64 b, .int .i64 c, .int .i64 d, .int .i64 fn, .int .i64 n] w fun e w' => e = .returned (.bool true) ∧ Below w.heap.size w w' := by
  have p1 : -1000003 < a.tmod 1000003 := Int.lt_tmod_of_pos _ (by decide)
  have p2 : a.tmod 1000003 < 1000003 := Int.tmod_lt_of_pos _ (by decide)
  have p3 : -1000003 < b.tmod 1000003 := Int.lt_tmod_of_pos _ (by decide)
  have p4 : b.tmod 1000003 < 1000003 := Int.tmod_lt_of_pos _ (by decide)
  have p5 : -1000003 < c.tmod 1000003 := Int.lt_tmod_of_pos _ (by decide)
  have p6 : c.tmod 1000003 < 1000003 := Int.tmod_lt_of_pos _ (by decide)
  have p7 : -1000003 < d.tmod 1000003 := Int.lt_tmod_of_pos _ (by decide)
  have p8 : d.tmod 1000003 < 1000003 := Int.tmod_lt_of_pos _ (by decide)
  have p9 : -1001 < fn.tmod 1001 := Int.lt_tmod_of_pos _ (by decide)
  have p10 : fn.tmod 1001 < 1001 := Int.tmod_lt_of_pos _ (by decide)
  obtain ⟨x, e1⟩ : ∃ x, (a.tmod 1000003 + 1000003) % 1000003 = x := ⟨_, rfl⟩
  obtain ⟨y, e2⟩ : ∃ x, (b.tmod 1000003 + 1000003) % 1000003 = x := ⟨_, rfl⟩
  obtain ⟨u, e3⟩ : ∃ x, (c.tmod 1000003 + 1000003) % 1000003 = x := ⟨_, rfl⟩
  obtain ⟨v, e4⟩ : ∃ x, (d.tmod 1000003 + 1000003) % 1000003 = x := ⟨_, rfl⟩
  obtain ⟨g, e5⟩ : ∃ x, (fn.tmod 1001 + 1001) % 1001 = x := ⟨_, rfl⟩
  have hx : 0 ≤ x ∧ x ≤ 1000002 := by omega
  have hy : 0 ≤ y ∧ y ≤ 1000002 := by omega
  have hu : 0 ≤ u ∧ u ≤ 1000002 := by omega
  have hv : 0 ≤ v ∧ v ≤ 1000002 := by omega
  have hg : 0 ≤ g ∧ g ≤ 1000 := by omega
  have fi := ofInt_fw
  have H := hid (mark_inj x y u v g (n % 1000003) hx hy hu hv)
  go_enter Try.func7, Try.ntmps7
  go_wp2_with fail
  refine (begun_any w).mono ?_
  rintro e w1 ⟨rfl, b1⟩
  go_wp2_with fail
  clear p1 p2 p3 p4 p5 p6 p7 p8 p9 p10
  refine (mark_any false false x y g n w1 hx.1 hx.2 hy.1 hy.2 hg.1 hg.2).mono ?_
  rintro e w' ⟨rfl, rfl⟩
  have k1 : 0 ≤ (x - 2 * y + g + 1) % 1000003 ∧ (x - 2 * y + g + 1) % 1000003 ≤ 1000002 := by omega
  have k2 : 0 ≤ (2 * x + y + n % 1000003) % 1000003 ∧ (2 * x + y + n % 1000003) % 1000003 ≤ 1000002 := by omega
  have k3 : 0 ≤ (u - 2 * v + g + 1) % 1000003 ∧ (u - 2 * v + g + 1) % 1000003 ≤ 1000002 := by omega
  have k4 : 0 ≤ (2 * u + v + n % 1000003) % 1000003 ∧ (2 * u + v + n % 1000003) % 1000003 ≤ 1000002 := by omega
  have hm := mark_any false false u v g n w1 hu.1 hu.2 hv.1 hv.2 hg.1 hg.2
  generalize (x - 2 * y + g + 1) % 1000003 = X at *
  generalize (2 * x + y + n % 1000003) % 1000003 = Y at *
  generalize (u - 2 * v + g + 1) % 1000003 = U at *
  generalize (2 * u + v + n % 1000003) % 1000003 = V at *
  have q1 := fun t w => cx_eql (P := Try.prog) false false false false X Y U V (by omega) (by omega) (by omega) (by omega) t w
  have q2 := fun t w => cx_eql (P := Try.prog) false false false false x y u v (by omega) (by omega) (by omega) (by omega) t w
  go_wp2_with fail
  refine hm.mono ?_
  rintro e w' ⟨rfl, rfl⟩
  go_wp2_with fail
  go_ret
  exact ⟨by simp only [← Bool.decide_and, decide_eq_decide.2 H.out]; simp, b1⟩
end Go.Proofs.Ytepdamfnmlfloaa
