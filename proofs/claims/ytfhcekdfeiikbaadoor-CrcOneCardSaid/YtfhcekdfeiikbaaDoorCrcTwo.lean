/- Two byte strings that differ here and there: plain numbers. -/
import Derived.Test.YtfhcekdfeiikbaaDoorCrcMath
namespace Go.Proofs.YtfhcekdfeiikbaaDoor

/-- The exclusive or of two byte strings. -/
def xl : List Int → List Int → List Int
  | x :: xs, y :: ys => ((x.toNat ^^^ y.toNat : Nat) : Int) :: xl xs ys
  | _, _ => []
theorem xl_len : ∀ (xs ys : List Int), xs.length = ys.length → (xl xs ys).length = xs.length
  | [], [], _ => rfl
  | x :: xs, y :: ys, h => by simp [xl, xl_len xs ys (by simpa using h)]
theorem xl_get : ∀ (xs ys : List Int) (i : Nat), xs.length = ys.length → i < xs.length → (xl xs ys).getD i 0 = (((xs.getD i 0).toNat ^^^ (ys.getD i 0).toNat : Nat) : Int)
  | [], [], _, _, h => by simp at h
  | x :: xs, y :: ys, 0, _, _ => by simp [xl]
  | x :: xs, y :: ys, i + 1, h, h' => by
    have := xl_get xs ys i (by simpa using h) (by simpa using h')
    simpa [xl] using this
theorem run_xl : ∀ (xs ys : List Int) (c d : Nat), xs.length = ys.length → run (c ^^^ d) (xl xs ys) = run c xs ^^^ run d ys
  | [], [], c, d, _ => rfl
  | x :: xs, y :: ys, c, d, h => by
    have ih := run_xl xs ys (its 8 (c ^^^ x.toNat)) (its 8 (d ^^^ y.toNat)) (by simpa using h)
    have e : its 8 (c ^^^ d ^^^ (x.toNat ^^^ y.toNat)) = its 8 (c ^^^ x.toNat) ^^^ its 8 (d ^^^ y.toNat) := by
      rw [← its_xor]
      congr 1
      ac_rfl
    simp only [run, xl, List.foldl_cons, Int.toNat_natCast] at ih ⊢
    rw [e]
    exact ih
/-- A byte string as one number, the first byte the lowest. -/
def le : List Int → Nat
  | [] => 0
  | x :: xs => x.toNat ^^^ le xs * 256
theorem run_le : ∀ (xs : List Int) (d : Nat), run d xs = its (8 * xs.length) (d ^^^ le xs)
  | [], d => by simp [run, le, its]
  | x :: xs, d => by
    have ih := run_le xs (its 8 (d ^^^ x.toNat))
    have e : its 8 (d ^^^ x.toNat) ^^^ le xs = its 8 (d ^^^ le (x :: xs)) := by
      have := its_shift 8 (le xs)
      rw [show (2 : Nat) ^ 8 = 256 from by decide] at this
      conv => lhs; rw [← this]
      rw [← its_xor, le, Nat.xor_assoc]
    rw [e, ← its_add] at ih
    simp only [run, List.foldl_cons] at ih ⊢
    rw [ih, List.length_cons]
    congr 1
    omega
theorem xor_shl (a b k : Nat) : (a ^^^ b) * 2 ^ k = a * 2 ^ k ^^^ b * 2 ^ k := by
  rw [← Nat.shiftLeft_eq, ← Nat.shiftLeft_eq, ← Nat.shiftLeft_eq, Nat.shiftLeft_xor_distrib]
theorem le_append : ∀ (xs ys : List Int), le (xs ++ ys) = le xs ^^^ le ys * 2 ^ (8 * xs.length)
  | [], ys => by simp [le]
  | x :: xs, ys => by
    have h1 := xor_shl (le xs) (le ys * 2 ^ (8 * xs.length)) 8
    rw [show (2 : Nat) ^ 8 = 256 from by decide] at h1
    rw [List.cons_append, le, le_append xs ys, le, h1, Nat.mul_assoc, ← show (2 : Nat) ^ 8 = 256 from by decide, ← Nat.pow_add, show 8 * xs.length + 8 = 8 * (x :: xs).length from by rw [List.length_cons]; omega, Nat.xor_assoc]
theorem le_zero : ∀ n, le (List.replicate n 0) = 0
  | 0 => rfl
  | n + 1 => by rw [List.replicate_succ, le, le_zero n]; rfl
theorem le_lt : ∀ (xs : List Int), (∀ x ∈ xs, 0 ≤ x ∧ x ≤ 255) → le xs < 2 ^ (8 * xs.length)
  | [], _ => by simp [le]
  | x :: xs, h => by
    have ih := le_lt xs (fun y hy => h y (by simp [hy]))
    have hx := h x (by simp)
    rw [le]
    refine Nat.xor_lt_two_pow ?_ ?_
    · refine Nat.lt_of_lt_of_le (show x.toNat < 2 ^ 8 by omega) (Nat.pow_le_pow_right (by decide) ?_)
      rw [List.length_cons]; omega
    · rw [List.length_cons, Nat.mul_add, Nat.pow_add]
      omega
theorem le_ne : ∀ (xs : List Int), (∀ x ∈ xs, 0 ≤ x ∧ x ≤ 255) → (∃ x ∈ xs, x ≠ 0) → le xs ≠ 0
  | [], _, ⟨_, hx, _⟩ => by cases hx
  | x :: xs, h, hne => by
    intro e
    rw [le] at e
    have h1 : x.toNat = le xs * 256 := by
      have := congrArg (· ^^^ (le xs * 256)) e
      simpa [Nat.xor_assoc] using this
    have hx := h x (by simp)
    have h0 : le xs = 0 := by omega
    have hx0 : x = 0 := by omega
    obtain ⟨y, hy, hy0⟩ := hne
    rcases List.mem_cons.1 hy with rfl | hy
    · exact hy0 hx0
    · exact le_ne xs (fun z hz => h z (by simp [hz])) ⟨y, hy, hy0⟩ h0

/-- ys from place a on, noughts about it. -/
def pad (p a : Nat) (ys : List Int) : List Int := List.replicate a 0 ++ ys ++ List.replicate (p - a - ys.length) 0
theorem pad_len {p a : Nat} {ys : List Int} (h : a + ys.length ≤ p) : (pad p a ys).length = p := by simp [pad]; omega
theorem pad_get (p a : Nat) (ys : List Int) (i : Nat) : (pad p a ys).getD i 0 = if a ≤ i then ys.getD (i - a) 0 else 0 := by
  unfold pad
  by_cases h : a ≤ i
  · rw [if_pos h, List.append_assoc]
    simp only [List.getD, List.getElem?_append, List.length_replicate, show ¬ i < a from by omega, if_false]
    by_cases h2 : i - a < ys.length
    · rw [if_pos h2]
    · rw [if_neg h2, List.getElem?_eq_none (l := ys) (by omega)]
      simp only [List.getElem?_replicate]
      split <;> rfl
  · rw [if_neg h, List.append_assoc]
    simp [List.getD, List.getElem?_append, show i < a from by omega]
theorem le_pad (p a : Nat) (ys : List Int) : le (pad p a ys) = le ys * 2 ^ (8 * a) := by
  rw [pad, le_append, le_append, le_zero, le_zero]
  simp
/-- What the change leaves of the state behind all bytes. -/
theorem run_pad {p a : Nat} {ys : List Int} (h : a + ys.length ≤ p) : run 0 (pad p a ys) = its (8 * p - 8 * a) (le ys) := by
  rw [run_le, pad_len h, le_pad, Nat.zero_xor, show 8 * p = 8 * a + (8 * p - 8 * a) from by omega, its_add, its_shift]
  congr 1
  omega
theorem crc_xl (xs ys : List Int) (h : xs.length = ys.length) (hx : ∀ x ∈ xs, 0 ≤ x ∧ x ≤ 255) (hy : ∀ x ∈ ys, 0 ≤ x ∧ x ≤ 255) : crcOf 0 (xl xs ys) = crcOf 0 xs ^^^ run 0 ys := by
  have b1 := run_lt (c := 4294967295) xs hx (by decide)
  have b2 := run_lt (c := 0) ys hy (by decide)
  have e := run_xl xs ys 4294967295 0 h
  rw [Nat.xor_zero] at e
  unfold crcOf
  rw [Nat.sub_zero, e, flip32 b1, flip32 (xor_lt32 b1 b2), Nat.xor_assoc]
theorem bytes_pad {p a : Nat} {ys : List Int} (hy : ∀ x ∈ ys, 0 ≤ x ∧ x ≤ 255) : ∀ x ∈ pad p a ys, 0 ≤ x ∧ x ≤ 255 := by
  intro x hx
  simp only [pad, List.mem_append, List.mem_replicate] at hx
  rcases hx with (⟨_, rfl⟩ | hx) | ⟨_, rfl⟩
  · omega
  · exact hy x hx
  · omega
theorem xor_ne_self {a b : Nat} (h : b ≠ 0) : a ^^^ b ≠ a := by
  intro e
  have := congrArg (a ^^^ ·) e
  simp [← Nat.xor_assoc] at this
  exact h this

/-- The burst: up to four bytes. -/
theorem crc_burst {p a : Nat} {xs ys : List Int} (hp : xs.length = p) (h : a + ys.length ≤ p) (h4 : ys.length ≤ 4) (hx : ∀ x ∈ xs, 0 ≤ x ∧ x ≤ 255) (hy : ∀ x ∈ ys, 0 ≤ x ∧ x ≤ 255) (hne : ∃ x ∈ ys, x ≠ 0) :
    crcOf 0 (xl xs (pad p a ys)) ≠ crcOf 0 xs := by
  rw [crc_xl _ _ (by rw [pad_len h, hp]) hx (bytes_pad hy)]
  refine xor_ne_self ?_
  rw [run_pad h]
  have hlt : le ys < 4294967296 := Nat.lt_of_lt_of_le (le_lt ys hy) (by rw [show (4294967296 : Nat) = 2 ^ 32 from by decide]; exact Nat.pow_le_pow_right (by decide) (by omega))
  intro e
  rw [← its_zero (8 * p - 8 * a)] at e
  exact le_ne ys hy hne (its_inj _ hlt (by decide) e)

/-- One more byte of the change is written. -/
theorem xl_pad_next {p a k : Nat} {xs ys : List Int} (hp : xs.length = p) (h : a + ys.length ≤ p) (hk : k < ys.length) :
    xl xs (pad p a (ys.take (k + 1))) = (xl xs (pad p a (ys.take k))).set (a + k) (((xs.getD (a + k) 0).toNat ^^^ (ys.getD k 0).toNat : Nat) : Int) := by
  have l1 : (ys.take (k + 1)).length = k + 1 := by simp; omega
  have l0 : (ys.take k).length = k := by simp; omega
  have g1 : xs.length = (pad p a (ys.take (k + 1))).length := by rw [pad_len (by omega), hp]
  have g0 : xs.length = (pad p a (ys.take k)).length := by rw [pad_len (by omega), hp]
  refine List.ext_getElem (by rw [List.length_set, xl_len _ _ g1, xl_len _ _ g0]) fun j hj hj' => ?_
  rw [xl_len _ _ g1] at hj
  have e1 : (xl xs (pad p a (ys.take (k + 1))))[j] = (xl xs (pad p a (ys.take (k + 1)))).getD j 0 := by simp [List.getD, xl_len _ _ g1, hj]
  have e0 : ∀ hh, (xl xs (pad p a (ys.take k)))[j]'hh = (xl xs (pad p a (ys.take k))).getD j 0 := fun hh => by simp [List.getD, xl_len _ _ g0, hj]
  rw [List.getElem_set, e1, xl_get _ _ _ g1 hj, pad_get]
  by_cases e : a + k = j
  · subst e
    rw [if_pos rfl, if_pos (by omega), show a + k - a = k from by omega]
    have : (ys.take (k + 1)).getD k 0 = ys.getD k 0 := by simp [List.getD]
    rw [this]
  · rw [if_neg e, e0, xl_get _ _ _ g0 hj, pad_get]
    have : (if a ≤ j then (ys.take (k + 1)).getD (j - a) 0 else 0) = (if a ≤ j then (ys.take k).getD (j - a) 0 else 0) := by
      split
      · by_cases h3 : j - a < k
        · simp [List.getD, h3, show j - a < k + 1 by omega]
        · have h4 : k + 1 ≤ j - a := by omega
          simp [List.getD, List.getElem?_take, h3, show ¬ j - a < k + 1 by omega]
      · rfl
    rw [this]
theorem xl_pad_zero {p a : Nat} {xs : List Int} (hp : xs.length = p) (h : a ≤ p) (hx : ∀ x ∈ xs, 0 ≤ x ∧ x ≤ 255) : xl xs (pad p a []) = xs := by
  have g0 : xs.length = (pad p a []).length := by rw [pad_len (by simpa using h), hp]
  refine List.ext_getElem (xl_len _ _ g0) fun j hj hj' => ?_
  have e0 : (xl xs (pad p a []))[j] = (xl xs (pad p a [])).getD j 0 := by simp [List.getD, hj]
  rw [e0, xl_get _ _ _ g0 hj', pad_get]
  have := hx xs[j] (by simp)
  simp [List.getD, hj']
  omega
/-- What stands where the next byte is changed. -/
theorem xl_pad_at {p a k : Nat} {xs ys : List Int} (hp : xs.length = p) (h : a + ys.length ≤ p) (hk : k < ys.length) (hx : ∀ x ∈ xs, 0 ≤ x ∧ x ≤ 255) : (xl xs (pad p a (ys.take k))).getD (a + k) 0 = xs.getD (a + k) 0 := by
  have l0 : (ys.take k).length = k := by simp; omega
  have g0 : xs.length = (pad p a (ys.take k)).length := by rw [pad_len (by omega), hp]
  rw [xl_get _ _ _ g0 (by omega), pad_get, if_pos (by omega), show a + k - a = k from by omega]
  have : (ys.take k).getD k 0 = 0 := by simp [List.getD, List.getElem?_take]
  rw [this]
  have hm : xs.getD (a + k) 0 ∈ xs := by simp [List.getD, show a + k < xs.length by omega]
  have := hx _ hm
  rw [show ((0 : Int).toNat) = 0 from rfl, Nat.xor_zero]
  omega

/-! ### One bit. -/
def noone : Nat → Nat → Bool
  | 0, _ => true
  | f + 1, n => n != 1 && noone f (stp n)
theorem noone_at : ∀ (f n d : Nat), noone f n = true → d < f → its d n ≠ 1
  | f + 1, n, 0, h, _ => by
    simp [noone] at h
    exact h.1
  | f + 1, n, d + 1, h, hd => by
    simp [noone] at h
    exact noone_at f (stp n) d h.2 (by omega)
theorem no_period (d : Nat) (h0 : 0 < d) (h : d < 801) : its d 1 ≠ 1 := by
  obtain ⟨e, rfl⟩ : ∃ e, d = e + 1 := ⟨d - 1, by omega⟩
  exact noone_at 800 (stp 1) e (by decide +kernel) (by omega)
theorem ones_apart {a b : Nat} (hab : a < b) (h : b ≤ 800) : its a 1 ≠ its b 1 := by
  intro e
  rw [show b = (b - a) + a from by omega, its_add] at e
  exact no_period (b - a) (by omega) (by omega) (its_inj a (by decide) (its_lt _ (by decide)) e).symm
theorem one_ne (a : Nat) : its a 1 ≠ 0 := by
  intro e
  rw [← its_zero a] at e
  exact absurd (its_inj a (by decide) (by decide) e) (by decide)
/-- x with bit i turned. -/
def bit (p : Nat) (x : List Int) (i : Nat) : List Int := xl x (pad p (i / 8) [((2 ^ (i % 8) : Nat) : Int)])
theorem bit_small (i : Nat) : 2 ^ (i % 8) ≤ 128 := by
  have h : i % 8 < 8 := Nat.mod_lt _ (by decide)
  have := Nat.pow_le_pow_right (show 0 < 2 by decide) (show i % 8 ≤ 7 by omega)
  simpa using this
theorem pow_small (i : Nat) : (2 : Int) ^ (i % 8) % 256 = ((2 ^ (i % 8) : Nat) : Int) := by
  have h := bit_small i
  have e : ((2 ^ (i % 8) : Nat) : Int) = (2 : Int) ^ (i % 8) := by simp
  rw [← e]
  generalize 2 ^ (i % 8) = m at *
  omega
theorem bit_bytes (i : Nat) : ∀ z ∈ [((2 ^ (i % 8) : Nat) : Int)], 0 ≤ z ∧ z ≤ 255 := by
  intro z hz
  rw [List.mem_singleton] at hz
  have := bit_small i
  generalize 2 ^ (i % 8) = m at *
  omega
theorem bit_len {p : Nat} {x : List Int} (hp : x.length = p) {i : Nat} (hi : i < 8 * p) : (bit p x i).length = p := by
  rw [bit, xl_len _ _ (by rw [pad_len (by simp; omega), hp]), hp]
theorem crc_bit {p : Nat} {x : List Int} (hp : x.length = p) (hx : ∀ z ∈ x, 0 ≤ z ∧ z ≤ 255) {i : Nat} (hi : i < 8 * p) : crcOf 0 (bit p x i) = crcOf 0 x ^^^ its (8 * p - i) 1 := by
  have hl : i / 8 + ([((2 ^ (i % 8) : Nat) : Int)] : List Int).length ≤ p := by simp; omega
  rw [bit, crc_xl _ _ (by rw [pad_len hl, hp]) hx (bytes_pad (bit_bytes i)), run_pad hl]
  congr 1
  rw [show le [((2 ^ (i % 8) : Nat) : Int)] = 1 * 2 ^ (i % 8) from by rw [le, le, Int.toNat_natCast, Nat.zero_mul, Nat.xor_zero, Nat.one_mul], show 8 * p - 8 * (i / 8) = i % 8 + (8 * p - i) from by omega, its_add, its_shift]
theorem bit_next {p : Nat} {x : List Int} (hp : x.length = p) (hx : ∀ z ∈ x, 0 ≤ z ∧ z ≤ 255) {i : Nat} (hi : i < 8 * p) : bit p x i = x.set (i / 8) (((x.getD (i / 8) 0).toNat ^^^ 2 ^ (i % 8) : Nat) : Int) := by
  have hl : i / 8 + ([((2 ^ (i % 8) : Nat) : Int)] : List Int).length ≤ p := by simp; omega
  have := xl_pad_next (k := 0) hp hl (by simp)
  rw [List.take_zero, xl_pad_zero hp (by omega) hx] at this
  rw [bit]
  generalize 2 ^ (i % 8) = m at *
  simpa using this
theorem crc_turned {p : Nat} {x : List Int} (hp : x.length = p) (hx : ∀ z ∈ x, 0 ≤ z ∧ z ≤ 255) {i : Nat} (hi : i < 8 * p) : crcOf 0 (bit p x i) ≠ crcOf 0 x := by
  rw [crc_bit hp hx hi]
  exact xor_ne_self (one_ne _)
theorem crc_apart {p : Nat} {x : List Int} (hp : x.length = p) (h100 : p ≤ 100) (hx : ∀ z ∈ x, 0 ≤ z ∧ z ≤ 255) {i k : Nat} (hi : i < 8 * p) (hk : k < 8 * p) (hne : i ≠ k) : crcOf 0 (bit p x i) ≠ crcOf 0 (bit p x k) := by
  rw [crc_bit hp hx hi, crc_bit hp hx hk]
  intro e
  have e2 := congrArg (crcOf 0 x ^^^ ·) e
  simp only [← Nat.xor_assoc, Nat.xor_self, Nat.zero_xor] at e2
  rcases Nat.lt_or_gt_of_ne (show 8 * p - i ≠ 8 * p - k by omega) with h | h
  · exact ones_apart h (by omega) e2
  · exact ones_apart h (by omega) e2.symm
end Go.Proofs.YtfhcekdfeiikbaaDoor
