/- What the reference's One answers, in one word. -/
import Derived.Test.YtiohgigbnncpiaaDoorIntRefOne
import Derived.Test.YtiohgigbnncpiaaDoorIntSame
namespace Go.Proofs.YtiohgigbnncpiaaDoor
open Go.RowKit

theorem refOne_to (op k n a v : Int) (t : Bool) (hn : In64 n) (h : oneS op k n = (a, v, t)) (w : World) :
    Calls Tryd.prog 16 #[.int .i64 op, av k n] w fun e w' => e = .returned (.tuple #[av a v, .bool t]) ∧ Below w.heap.size w w' := by
  obtain ⟨c, b, hcb⟩ : ∃ c b, cls op = (c, b) := ⟨_, _, rfl⟩
  obtain ⟨nk, r, ok, hkd⟩ : ∃ nk r ok, kindsS b c = (nk, r, ok) := ⟨_, _, _, rfl⟩
  have g := cls_cases hcb
  unfold oneS at h
  rw [hcb] at h
  dsimp only at h
  have hkk : (if nk = 0 then 0 else c) = (if nk = 0 then 0 else c) := rfl
  by_cases g0 : b = 69 ∨ (103 ≤ b ∧ b ≤ 105) ∨ b = 167 ∨ b = 172 ∨ b = 173
  · have e2 : nk = 1 ∧ ok = true := by
      unfold kindsS at hkd
      by_cases q1 : b = 69
      · rw [if_pos q1] at hkd; cases hkd; exact ⟨rfl, rfl⟩
      rw [if_neg q1, if_neg (by omega)] at hkd
      by_cases q2 : 103 ≤ b ∧ b ≤ 105
      · rw [if_pos q2] at hkd; cases hkd; exact ⟨rfl, rfl⟩
      rw [if_neg q2, if_neg (by omega)] at hkd
      by_cases q3 : b = 167
      · rw [if_pos q3] at hkd; cases hkd; exact ⟨rfl, rfl⟩
      rw [if_neg q3, if_pos (by omega)] at hkd
      cases hkd; exact ⟨rfl, rfl⟩
    have hok := e2.2
    have h5 : ((nk : Int) != 1) = false := by rw [e2.1]; rfl
    by_cases h1 : k = c
    · subst h1
      by_cases h3 : okv k n = true
      · rw [if_pos ⟨rfl, h3⟩] at h
        have hk := okv_kind h3
        have hu := un_in k n
        have hun : un k n = ((un k n).toNat : Int) := by omega
        have hW : (k = 1 ∧ ((wd k : Nat) : Int) = 32) ∨ (k = 2 ∧ ((wd k : Nat) : Int) = 64) := by
          rcases hk with rfl | rfl
          · exact Or.inl ⟨rfl, rfl⟩
          · exact Or.inr ⟨rfl, rfl⟩
        have huW : (un k n).toNat < 2 ^ wd k := by
          unfold un wd
          rcases hk with rfl | rfl
          · simp only [if_true]
            rw [show (2 : Nat) ^ 32 = 4294967296 from by decide]
            omega
          · rw [if_neg (by decide), if_neg (by decide)]
            rw [show (2 : Nat) ^ 64 = 18446744073709551616 from by decide]
            omega
        have bl := Lib.bitLen_le (un k n).toNat (wd k) (by omega) huW
        have sp : ∀ z : Int, 0 ≤ z → z ≤ 64 → sg k z = z := fun z z0 z1 => sg_id k z (by unfold okv; rcases hk with rfl | rfl <;> simp <;> omega) (by unfold In64; omega)
        unfold oneMid at h
        by_cases b1 : b = 69
        · rw [if_pos b1] at h; cases h; subst b1
          exact refOne_eqz op k n hcb nk _ r ok hkd hkk hok h5 h3 _ rfl (by
            rw [Bool.eq_iff_iff]
            have := un_pos k n hk h3 hn
            simp
            omega) w
        rw [if_neg b1] at h
        by_cases b2 : b = 103
        · rw [if_pos b2] at h; cases h; subst b2
          exact refOne_clz op _ n hcb nk _ r ok hkd hkk hok h5 h3 _ hun _ hW huW _ (sp _ (by omega) (by omega)).symm w
        rw [if_neg b2] at h
        by_cases b3 : b = 104
        · rw [if_pos b3] at h; cases h; subst b3
          exact refOne_ctz op _ n hcb nk _ r ok hkd hkk hok h5 h3 _ hun _ hW huW _ (sp _ (by omega) (by omega)).symm w
        rw [if_neg b3] at h
        by_cases b4 : b = 105
        · rw [if_pos b4] at h; cases h; subst b4
          have e := pc_wide (wd k) (64 - wd k) _ huW
          rw [show wd k + (64 - wd k) = 64 by omega] at e
          have l := pc_le 64 (un k n).toNat
          exact refOne_pop op _ n hcb nk _ r ok hkd hkk hok h5 h3 _ hun _ hW huW _ (by rw [← e]; exact (sp _ (by omega) (by omega)).symm) w
        rw [if_neg b4] at h
        by_cases b5 : b = 167
        · rw [if_pos b5] at h; cases h; subst b5; exact refOne_wrap op k n hcb nk _ r ok hkd hkk hok h5 h3 _ rfl w
        rw [if_neg b5] at h
        by_cases b6 : b = 172
        · rw [if_pos b6, sg_id 2 n rfl hn] at h; cases h; subst b6; exact refOne_ext op k _ hcb nk _ r ok hkd hkk hok h5 h3 _ rfl w
        rw [if_neg b6] at h
        rw [if_pos (by omega), sg_id 2 _ rfl (wrap64_in _)] at h
        cases h
        have b7 : b = 173 := by omega
        subst b7
        exact refOne_extu op k n hcb nk _ r ok hkd hkk hok h5 h3 _ rfl w
      · rw [if_neg (by simp [h3])] at h
        cases h
        exact refOne_bad2 op k b n hcb nk _ r ok hkd hkk hok h5 (by simpa using h3) w
    · rw [if_neg (by simp [h1])] at h
      cases h
      exact refOne_bad1 op c b k n hcb nk _ r ok hkd hkk hok h5 (by simp [h1]) w
  · have hz : (a, v, t) = (0, 0, false) := by
      rw [← h]
      split
      · unfold oneMid
        rw [if_neg (by omega), if_neg (by omega), if_neg (by omega), if_neg (by omega), if_neg (by omega), if_neg (by omega), if_neg (by omega)]
      · rfl
    cases hz
    cases hok : ok with
    | false => exact refOne_bad0 op c b k n hcb nk _ r ok hkd hkk hok w
    | true =>
      have h5 : ((nk : Int) != 1) = true := by
        have : nk ≠ 1 := by
          rintro rfl
          unfold kindsS at hkd
          rw [if_neg (by omega)] at hkd
          by_cases q2 : 70 ≤ b ∧ b ≤ 79
          · rw [if_pos q2] at hkd; cases hkd
          rw [if_neg q2, if_neg (by omega)] at hkd
          by_cases q3 : 106 ≤ b ∧ b ≤ 120
          · rw [if_pos q3] at hkd; cases hkd
          rw [if_neg q3, if_neg (by omega), if_neg (by omega)] at hkd
          cases hkd
        simp
        omega
      exact refOne_bad5 op c b k n hcb nk _ r ok hkd hkk hok h5 w

/-- What Two answers without a trap is a value. -/
theorem twoS_ok (op k n k' m a v : Int) (h : twoS op k n k' m = (a, v, 0)) : okv a v = true ∧ In64 v := by
  unfold twoS at h
  split at h
  · rename_i g
    have hk := okv_kind g.2.2.1
    obtain ⟨c, hc⟩ : ∃ c, (cls op).1 = c := ⟨_, rfl⟩
    obtain ⟨b, hb⟩ : ∃ c, (cls op).2 = c := ⟨_, rfl⟩
    rw [hc] at hk h
    rw [hb] at h
    have tro : ∀ t : Bool, okv 1 (tr t) = true ∧ In64 (tr t) := fun t => by cases t <;> decide
    unfold midS at h
    by_cases g1 : 70 ≤ b ∧ b ≤ 79
    · rw [if_pos g1] at h; cases h; exact tro _
    rw [if_neg g1] at h
    by_cases g2 : 109 ≤ b ∧ b ≤ 112
    · rw [if_pos g2] at h
      unfold divS at h
      by_cases h0 : m = 0
      · rw [if_pos h0] at h; cases h
      rw [if_neg h0] at h
      by_cases h1 : b = 109
      · rw [if_pos h1] at h
        by_cases h2 : n = (if c = 1 then -2147483648 else -9223372036854775808) ∧ m = -1
        · rw [if_pos h2] at h; cases h
        rw [if_neg h2] at h; cases h; exact ⟨okv_sg _ _ hk, in64_sg _ _⟩
      rw [if_neg h1] at h
      by_cases h2 : b = 110
      · rw [if_pos h2] at h; cases h; exact ⟨okv_sg _ _ hk, in64_sg _ _⟩
      rw [if_neg h2] at h
      by_cases h3 : b = 111
      · rw [if_pos h3] at h; cases h; exact ⟨okv_sg _ _ hk, in64_sg _ _⟩
      rw [if_neg h3] at h; cases h; exact ⟨okv_sg _ _ hk, in64_sg _ _⟩
    rw [if_neg g2] at h
    by_cases g3 : 106 ≤ b ∧ b ≤ 120
    · rw [if_pos g3] at h; cases h; exact ⟨okv_sg _ _ hk, in64_sg _ _⟩
    rw [if_neg g3] at h; cases h
  · cases h
end Go.Proofs.YtiohgigbnncpiaaDoor
