/- The program's sums and the reference's are the same, once they are wrapped; what the reference's Two answers, in one word. -/
import Derived.Test.YtiohgigbnncpiaaDoorIntRefTwo
import Derived.Test.YtiohgigbnncpiaaDoorIntSpec
namespace Go.Proofs.YtiohgigbnncpiaaDoor
open Go.RowKit

theorem raw_same (b c n m f s : Int) : sg c (wrap64 (refRaw b n (un c n) (un c m) f s)) = sg c (calcS b n m (un c n) f s) := by
  rw [sg_wrap64]
  have hx := un_mod c n
  have hy := un_mod c m
  unfold refRaw calcS
  by_cases b106 : b = 106
  · rw [if_pos b106, if_pos b106]
    rw [sg_u64, sg_wrap64]
    exact sg_mod _ _ _ ⟨fun h => by have := hx.1 h; have := hy.1 h; omega, fun h => by have := hx.2 h; have := hy.2 h; omega⟩
  rw [if_neg b106, if_neg b106]
  by_cases b107 : b = 107
  · rw [if_pos b107, if_pos b107]
    rw [sg_u64, sg_wrap64]
    exact sg_mod _ _ _ ⟨fun h => by have := hx.1 h; have := hy.1 h; omega, fun h => by have := hx.2 h; have := hy.2 h; omega⟩
  rw [if_neg b107, if_neg b107]
  by_cases b108 : b = 108
  · rw [if_pos b108, if_pos b108]
    rw [sg_u64, sg_wrap64]
    exact sg_mul _ _ _ _ _ hx hy
  rw [if_neg b108, if_neg b108]
  by_cases b113 : b = 113
  · rw [if_pos b113, if_pos b113]
    exact sg_bits (.inl rfl) c n m
  rw [if_neg b113, if_neg b113]
  by_cases b114 : b = 114
  · rw [if_pos b114, if_pos b114]
    exact sg_bits (.inr (.inl rfl)) c n m
  rw [if_neg b114, if_neg b114]
  by_cases b115 : b = 115
  · rw [if_pos b115, if_pos b115]
    exact sg_bits (.inr (.inr rfl)) c n m
  rw [if_neg b115, if_neg b115]
  by_cases b116 : b = 116
  · rw [if_pos b116, if_pos b116]
    rw [sg_u64, sg_wrap64]
    exact sg_mul _ _ _ _ _ hx ⟨fun _ => rfl, fun _ => rfl⟩
  rw [if_neg b116, if_neg b116]
  by_cases b117 : b = 117
  · rw [if_pos b117, if_pos b117]
    rw [sg_u64]
  rw [if_neg b117, if_neg b117]
  by_cases b118 : b = 118
  · rw [if_pos b118, if_pos b118]
    rw [sg_wrap64]
  rw [if_neg b118, if_neg b118]
  by_cases b119 : b = 119
  · rw [if_pos b119, if_pos b119]
    rw [sg_wrap64]
  rw [if_neg b119, if_neg b119]
  rw [sg_wrap64]

/-- Values of one kind are the same if their bits are. -/
theorem un_eq (c n m : Int) (hk : c = 1 ∨ c = 2) (h1 : okv c n = true) (h2 : okv c m = true) (hn : -9223372036854775808 ≤ n ∧ n ≤ 9223372036854775807) (hm : -9223372036854775808 ≤ m ∧ m ≤ 9223372036854775807) : (un c n == un c m) = (n == m) := by
  rw [Bool.eq_iff_iff]
  unfold okv at h1 h2
  unfold un
  rcases hk with rfl | rfl
  · simp at h1 h2
    simp
    omega
  · simp
    omega
theorem refTwo_to (op k n k' m a v t : Int) (hn : In64 n) (hm : In64 m) (h : twoS op k n k' m = (a, v, t)) (w : World) :
    Calls Tryd.prog 18 #[.int .i64 op, av k n, av k' m] w fun e w' => e = .returned (.tuple #[av a v, .int .i64 t]) ∧ Below w.heap.size w w' := by
  obtain ⟨c, b, hcb⟩ : ∃ c b, cls op = (c, b) := ⟨_, _, rfl⟩
  obtain ⟨nk, r, ok, hkd⟩ : ∃ nk r ok, kindsS b c = (nk, r, ok) := ⟨_, _, _, rfl⟩
  have g := cls_cases hcb
  unfold twoS at h
  rw [hcb] at h
  dsimp only at h
  have hkk : (if nk = 0 then 0 else c) = (if nk = 0 then 0 else c) := rfl
  -- not of two
  by_cases g0 : (70 ≤ b ∧ b ≤ 79) ∨ (106 ≤ b ∧ b ≤ 120)
  · have e2 : nk = 2 ∧ ok = true := by
      unfold kindsS at hkd
      rcases g0 with g0 | g0
      · rw [if_neg (by omega), if_pos g0] at hkd
        cases hkd
        exact ⟨rfl, rfl⟩
      · rw [if_neg (by omega), if_neg (by omega), if_neg (by omega), if_pos g0] at hkd
        cases hkd
        exact ⟨rfl, rfl⟩
    have hok := e2.2
    have h5 : ((nk : Int) != 2) = false := by rw [e2.1]; rfl
    by_cases h1 : k = c
    · by_cases h2 : k' = c
      · subst h1
        have h2 := h2.symm
        subst h2
        by_cases h3 : okv k n = true
        · by_cases h4 : okv k m = true
          · rw [if_pos ⟨rfl, rfl, h3, h4⟩] at h
            have hk := okv_kind h3
            unfold midS at h
            by_cases g1 : 70 ≤ b ∧ b ≤ 79
            · rw [if_pos g1] at h
              cases h
              exact refTwo_cmp op k b n m hcb nk _ r ok hkd hkk hok h5 h3 h4 hk _ _ rfl rfl g1.2 (un_eq k n m hk h3 h4 hn hm) w
            rw [if_neg g1] at h
            by_cases g2 : 109 ≤ b ∧ b ≤ 112
            · rw [if_pos g2] at h
              exact refTwo_div op k b n m hcb nk _ r ok hkd hkk hok h5 h3 h4 hk _ _ rfl rfl (by omega) hn hm a v t h w
            rw [if_neg g2] at h
            rw [if_pos (by omega)] at h
            cases h
            exact refTwo_calc op k b n m hcb nk _ r ok hkd hkk hok h5 h3 h4 hk _ _ rfl rfl (by omega) (by omega) _ _ (by rcases hk with rfl | rfl <;> simp) rfl _ (raw_same b k n m _ _) w
          · rw [if_neg (by simp [h4])] at h
            cases h
            exact refTwo_bad4 op k b n m hcb nk _ r ok hkd hkk hok h5 h3 (by simpa using h4) w
        · rw [if_neg (by simp [h3])] at h
          cases h
          exact refTwo_bad3 op k b n m hcb nk _ r ok hkd hkk hok h5 (by simpa using h3) w
      · rw [if_neg (by simp [h2])] at h
        cases h
        subst h1
        exact refTwo_bad2 op k b n k' m hcb nk _ r ok hkd hkk hok h5 (by simp [h2]) w
    · rw [if_neg (by simp [h1])] at h
      cases h
      exact refTwo_bad1 op c b k n k' m hcb nk _ r ok hkd hkk hok h5 (by simp [h1]) w
  · have hz : (a, v, t) = (0, 0, -1) := by
      rw [← h]
      split
      · unfold midS
        rw [if_neg (by omega), if_neg (by omega), if_neg (by omega)]
      · rfl
    cases hz
    cases hok : ok with
    | false => exact refTwo_bad0 op c b k n k' m hcb nk _ r ok hkd hkk hok w
    | true =>
      have h5 : ((nk : Int) != 2) = true := by
        have : nk ≠ 2 := by
          rintro rfl
          unfold kindsS at hkd
          by_cases q1 : b = 69
          · rw [if_pos q1] at hkd; cases hkd
          rw [if_neg q1, if_neg (by omega)] at hkd
          by_cases q2 : 103 ≤ b ∧ b ≤ 105
          · rw [if_pos q2] at hkd; cases hkd
          rw [if_neg q2, if_neg (by omega)] at hkd
          by_cases q3 : b = 167
          · rw [if_pos q3] at hkd; cases hkd
          rw [if_neg q3] at hkd
          by_cases q4 : b = 172 ∨ b = 173
          · rw [if_pos q4] at hkd; cases hkd
          rw [if_neg q4] at hkd; cases hkd
        simp
        omega
      exact refTwo_bad5 op c b k n k' m hcb nk _ r ok hkd hkk hok h5 w

end Go.Proofs.YtiohgigbnncpiaaDoor
