/- What One and Two of ints answer: in one word each. -/
import Derived.Test.YtiohgigbnncpiaaDoorIntSg
import Derived.Test.YtiohgigbnncpiaaDoorIntKinds
import Derived.Test.YtiohgigbnncpiaaDoorIntClz
namespace Go.Proofs.YtiohgigbnncpiaaDoor
open Go.RowKit

abbrev In64 (n : Int) : Prop := -9223372036854775808 ≤ n ∧ n ≤ 9223372036854775807

/-- What Two answers: kind, number, trap. -/
def twoS (op k n k' m : Int) : Int × Int × Int :=
  if k = (cls op).1 ∧ k' = (cls op).1 ∧ okv (cls op).1 n = true ∧ okv (cls op).1 m = true then midS (cls op).2 (cls op).1 n m else (0, 0, -1)

/-- The width of a kind. -/
def wd (c : Int) : Nat := if c = 1 then 32 else 64

/-- What One answers of a value of the kind c. -/
def oneMid (b c n : Int) : Int × Int × Bool :=
  if b = 69 then (1, tr (n == 0), true)
  else if b = 103 then (c, sg c ((wd c : Int) - (Lib.bitLen (un c n).toNat : Int)), true)
  else if b = 104 then (c, sg c (min (Lib.ctz 64 (un c n).toNat) (wd c) : Nat), true)
  else if b = 105 then (c, sg c (pc 64 (un c n).toNat : Nat), true)
  else if b = 167 then (1, sg 1 n, true)
  else if b = 172 then (2, sg 2 n, true)
  else if b = 173 then (2, sg 2 (wrap64 (un c n)), true)
  else (0, 0, false)
def oneS (op k n : Int) : Int × Int × Bool :=
  if k = (cls op).1 ∧ okv (cls op).1 n = true then oneMid (cls op).2 (cls op).1 n else (0, 0, false)

theorem okv_kind {c n : Int} (h : okv c n = true) : c = 1 ∨ c = 2 := by
  unfold okv at h
  simp at h
  omega

theorem two_to (op k n k' m a v t : Int) (hn : In64 n) (hm : In64 m) (h : twoS op k n k' m = (a, v, t)) (w : World) :
    Calls Tryd.prog 17 #[.int .i64 op, av k n, av k' m] w fun e w' => e = .returned (.tuple #[av a v, .int .i64 t]) ∧ Below w.heap.size w w' := by
  obtain ⟨c, b, hcb⟩ : ∃ c b, cls op = (c, b) := ⟨_, _, rfl⟩
  unfold twoS at h
  rw [hcb] at h
  dsimp only at h
  by_cases h1 : k = c
  · by_cases h2 : k' = c
    · subst h1
      have h2 := h2.symm
      subst h2
      by_cases h3 : okv k n = true
      · by_cases h4 : okv k m = true
        · rw [if_pos ⟨rfl, rfl, h3, h4⟩] at h
          have hk := okv_kind h3
          unfold midS at h
          by_cases g1 : 70 ≤ b ∧ b ≤ 79
          · rw [if_pos g1] at h
            cases h
            exact two_cmp op k b n m hcb hn hm h3 h4 g1 _ _ rfl rfl w
          rw [if_neg g1] at h
          by_cases g2 : 109 ≤ b ∧ b ≤ 112
          · rw [if_pos g2] at h
            exact two_div op k b n m hcb hn hm h3 h4 (by omega) hk a v t h w
          rw [if_neg g2] at h
          by_cases g3 : 106 ≤ b ∧ b ≤ 120
          · rw [if_pos g3] at h
            cases h
            exact two_calc op k b n m hcb hn hm h3 h4 g3 (by omega) hk _ _ rfl rfl w
          rw [if_neg g3] at h
          cases h
          exact two_none op k b n m hcb hn hm h3 h4 (by omega) (by omega) w
        · rw [if_neg (by simp [h4])] at h
          cases h
          exact two_bad4 op k b n m hcb hn hm h3 (by simpa using h4) w
      · rw [if_neg (by simp [h3])] at h
        cases h
        exact two_bad3 op k b n m hcb hn hm (by simpa using h3) w
    · rw [if_neg (by simp [h2])] at h
      cases h
      subst h1
      exact two_bad2 op k b n k' m hcb hn hm (by simp [h2]) w
  · rw [if_neg (by simp [h1])] at h
    cases h
    exact two_bad1 op c b k n k' m hcb hn hm (by simp [h1]) w

theorem one_to (op k n a v : Int) (t : Bool) (hn : In64 n) (h : oneS op k n = (a, v, t)) (w : World) (hL : Laid w) :
    Calls Tryd.prog 15 #[.int .i64 op, av k n] w fun e w' => e = .returned (.tuple #[av a v, .bool t]) ∧ Below w.heap.size w w' := by
  obtain ⟨c, b, hcb⟩ : ∃ c b, cls op = (c, b) := ⟨_, _, rfl⟩
  unfold oneS at h
  rw [hcb] at h
  dsimp only at h
  by_cases h1 : k = c
  · subst h1
    by_cases h3 : okv k n = true
    · rw [if_pos ⟨rfl, h3⟩] at h
      have hk := okv_kind h3
      have hu := un_in k n
      have hun : un k n = ((un k n).toNat : Int) := by omega
      have hu64 : (un k n).toNat < 18446744073709551616 := by omega
      unfold oneMid at h
      by_cases b1 : b = 69
      · rw [if_pos b1] at h; cases h; subst b1; exact one_eqz op k n hcb hn h3 w
      rw [if_neg b1] at h
      by_cases b2 : b = 103
      · rw [if_pos b2] at h; cases h; subst b2
        exact one_clz op k n hcb hn h3 hk _ rfl _ _ _ rfl (by unfold wd; split <;> rfl) rfl w
      rw [if_neg b2] at h
      by_cases b3 : b = 104
      · rw [if_pos b3] at h; cases h; subst b3
        exact one_ctz op k n hcb hn h3 hk _ hun _ _ rfl (by
          by_cases h0 : (un k n).toNat = 0
          · rw [h0]; decide
          · have := (Lib.lowest_bit 64 _ h0 hu64).2; omega) (by unfold wd; split <;> rfl) w hL
      rw [if_neg b3] at h
      by_cases b4 : b = 105
      · rw [if_pos b4] at h; cases h; subst b4
        exact one_pop op k n hcb hn h3 hk _ hun _ rfl w
      rw [if_neg b4] at h
      by_cases b5 : b = 167
      · rw [if_pos b5] at h; cases h; subst b5; exact one_wrap op k n hcb hn h3 w
      rw [if_neg b5] at h
      by_cases b6 : b = 172
      · rw [if_pos b6] at h; cases h; subst b6; exact one_ext op k n hcb hn h3 w
      rw [if_neg b6] at h
      by_cases b7 : b = 173
      · rw [if_pos b7] at h; cases h; subst b7; exact one_extu op k n hcb hn h3 _ rfl w
      rw [if_neg b7] at h
      cases h
      exact one_none op k n b hcb hn h3 (by simp [b1]) (by simp [b2]) (by simp [b3]) (by simp [b4]) (by simp [b5]) (by simp [b6]) (by simp [b7]) w
    · rw [if_neg (by simp [h3])] at h
      cases h
      exact one_bad2 op k b n hcb hn (by simpa using h3) w
  · rw [if_neg (by simp [h1])] at h
    cases h
    exact one_bad1 op c b k n hcb hn (by simp [h1]) w
end Go.Proofs.YtiohgigbnncpiaaDoor
