/- What was put is read again, whatever stands behind it. Plain mathematics. -/
import Derived.Test.YtfambbpggodlkaaInsRd
namespace Go.Proofs.Ytfambbpggodlkaa
open Go.RowKit

theorem encU_few : ∀ (k f : Nat) (u : Int), u < 128 ^ (k + 1) → (encU f u).length ≤ k + 1
  | k, f, u, h => by
    by_cases hc : 128 ≤ u
    · cases f with
      | zero => simp [encU]
      | succ f =>
        cases k with
        | zero => omega
        | succ k =>
          rw [encU_big hc]
          have hk : u / 128 < 128 ^ (k + 1) := by
            rw [Int.pow_succ] at h
            omega
          have := encU_few k f (u / 128) hk
          simpa using this
    · rw [encU_small hc]; simp
theorem encS_few : ∀ (k f : Nat) (u : Int), -(64 * 128 ^ k) ≤ u → u < 64 * 128 ^ k → (encS f u).length ≤ k + 1
  | k, f, u, h, h' => by
    by_cases hc : u < -64 ∨ 64 ≤ u
    · cases f with
      | zero => simp [encS]
      | succ f =>
        cases k with
        | zero => omega
        | succ k =>
          rw [encS_big hc]
          rw [Int.pow_succ] at h h'
          have := encS_few k f (u / 128) (by omega) (by omega)
          simpa using this
    · rw [encS_small hc]; simp
theorem stop_enc : ∀ (ys rest : List Int) (m : Nat), Shape ys → ys.length ≤ m → Stop (ys ++ rest) m (ys.length - 1)
  | [x], rest, m, h, hm => ⟨by simp, by simp at hm ⊢; omega, fun i hi => by simp at hi, by simpa [List.getD] using h.2⟩
  | x :: y :: r, rest, m, h, hm => by
    have ih := stop_enc (y :: r) rest (m - 1) h.2.2 (by simp at hm ⊢; omega)
    refine ⟨by simp; omega, by simp at hm ⊢; omega, fun i hi => ?_, ?_⟩
    · cases i with
      | zero => simpa [List.getD] using h.1
      | succ i =>
        have := ih.more i (by simp at hi ⊢; omega)
        simpa [List.getD] using this
    · have := ih.last
      simpa [List.getD] using this

theorem decU_enc (u : Int) (rest : List Int) (h0 : 0 ≤ u) (h1 : u < 4294967296) : decU 32 (encU 9 u ++ rest) = (u, (encU 9 u).length, 0) := by
  have hf := fits9 u h0 (by omega)
  have hl := encU_few 4 9 u (by rw [show (128 : Int) ^ (4 + 1) = 34359738368 from by decide]; omega)
  have e5 : (((32 : Int) + 6) / 7).toNat = 5 := by decide
  have hs := stop_enc (encU 9 u) rest (((32 : Int) + 6) / 7).toNat (encU_shape 9 u h0 hf) (by rw [e5]; omega)
  have hne : (encU 9 u).length ≠ 0 := by have := encU_ne 9 u; simpa using this
  have e1 : (encU 9 u).length - 1 + 1 = (encU 9 u).length := by omega
  have e2 : (encU 9 u ++ rest).take ((encU 9 u).length - 1 + 1) = encU 9 u := by rw [e1]; simp
  rw [decU_ok hs ⟨by rw [e2]; exact encU_can 9 u h0 hf, by rw [e2, encU_val 9 u h0 hf]; rw [show (2 : Int) ^ (32 : Int).toNat = 4294967296 from by decide]; exact h1⟩]
  rw [e2, encU_val 9 u h0 hf, e1]
theorem decS_enc (bits u : Int) (rest : List Int) (hb : (bits = 32 ∧ -2147483648 ≤ u ∧ u ≤ 2147483647) ∨ (bits = 64 ∧ -9223372036854775808 ≤ u ∧ u ≤ 9223372036854775807)) : decS bits (encS 9 u ++ rest) = (u, (encS 9 u).length, 0) := by
  have hu : -9223372036854775808 ≤ u ∧ u ≤ 9223372036854775807 := by omega
  have hf := fitsS9 u hu.1 hu.2
  have hl : (encS 9 u).length ≤ ((bits + 6) / 7).toNat := by
    rcases hb with ⟨rfl, h0, h1⟩ | ⟨rfl, h0, h1⟩
    · have := encS_few 4 9 u (by rw [show (128 : Int) ^ 4 = 268435456 from by decide]; omega) (by rw [show (128 : Int) ^ 4 = 268435456 from by decide]; omega)
      have e : (((32 : Int) + 6) / 7).toNat = 5 := by decide
      omega
    · have := encS_len 9 u
      have e : (((64 : Int) + 6) / 7).toNat = 10 := by decide
      omega
  have hs := stop_enc (encS 9 u) rest ((bits + 6) / 7).toNat (encS_shape 9 u hf) hl
  have hne : (encS 9 u).length ≠ 0 := by have := encS_ne 9 u; simpa using this
  have e1 : (encS 9 u).length - 1 + 1 = (encS 9 u).length := by omega
  have e2 : (encS 9 u ++ rest).take ((encS 9 u).length - 1 + 1) = encS 9 u := by rw [e1]; simp
  have hg : goodS (encS 9 u ++ rest) bits ((encS 9 u).length - 1) := by
    unfold goodS
    rw [e2, encS_val 9 u hf]
    refine ⟨encS_can 9 u hf, ?_⟩
    rcases hb with ⟨rfl, h0, h1⟩ | ⟨rfl, h0, h1⟩
    · rw [show (2 : Int) ^ ((32 : Int) - 1).toNat = 2147483648 from by decide]; omega
    · rw [show (2 : Int) ^ ((64 : Int) - 1).toNat = 9223372036854775808 from by decide]; omega
  rw [decS_ok hs hg, e2, encS_val 9 u hf, e1]

theorem drop_next {xs ys rest : List Int} {i : Nat} (h : xs.drop i = ys ++ rest) : xs.drop (i + ys.length) = rest := by
  rw [← List.drop_drop, h, List.drop_left]
theorem rU_enc {xs rest : List Int} {i : Nat} {u : Int} (h : xs.drop i = encU 9 u ++ rest) (h0 : 0 ≤ u) (h1 : u < 4294967296) : rU xs ⟨i, 0⟩ = (u, ⟨i + (encU 9 u).length, 0⟩) := by
  unfold rU
  rw [if_pos rfl, h, decU_enc u rest h0 h1]
theorem rS_enc {xs rest : List Int} {i : Nat} {bits u : Int} (h : xs.drop i = encS 9 u ++ rest) (hb : (bits = 32 ∧ -2147483648 ≤ u ∧ u ≤ 2147483647) ∨ (bits = 64 ∧ -9223372036854775808 ≤ u ∧ u ≤ 9223372036854775807)) : rS bits xs ⟨i, 0⟩ = (u, ⟨i + (encS 9 u).length, 0⟩) := by
  unfold rS
  rw [if_pos rfl, h, decS_enc bits u rest hb]
theorem rOne_enc {xs rest : List Int} {i : Nat} {x : Int} (h : xs.drop i = x :: rest) : rOne xs ⟨i, 0⟩ = (x, ⟨i + 1, 0⟩) := by
  have hl : i < xs.length := by
    have := congrArg List.length h
    simp at this
    omega
  have hx : xs.getD i 0 = x := by
    rw [List.drop_eq_getElem_cons hl] at h
    simp only [List.cons.injEq] at h
    simp [List.getD, hl, h.1]
  unfold rOne
  rw [if_pos rfl, if_neg (by simp only; omega), hx]
theorem need_true (s : RS) : need true s = s := by unfold need; rw [if_neg (fun h => by cases h.1)]
theorem rA_enc {f : Int} {xs rest : List Int} {i : Nat} {u : Int} (h : xs.drop i = encU 9 u ++ rest) (h0 : 0 ≤ u) (h1 : u < 4294967296) (hm : mayAS f u = true) : rA f xs ⟨i, 0⟩ = (u, ⟨i + (encU 9 u).length, 0⟩) := by
  unfold rA
  rw [rU_enc h h0 h1]
  simp only
  rw [hm, need_true]
theorem rLs_enc (xs rest : List Int) : ∀ (l : List Int) (i : Nat), (∀ x ∈ l, 0 ≤ x ∧ x ≤ 1000) → xs.drop i = encL l ++ rest → rLs xs l.length ⟨i, 0⟩ = (l, ⟨i + (encL l).length, 0⟩)
  | [], i, _, _ => by simp [rLs, encL]
  | x :: r, i, hl, h => by
    have hx := hl x (by simp)
    have h1 : xs.drop i = encU 9 x ++ (encL r ++ rest) := by rw [h, encL, List.append_assoc]
    have ha := rA_enc (f := 3) h1 hx.1 (by omega) (by simp [mayAS, hx.1, hx.2])
    rw [List.length_cons, rLs_go rfl ha, rLs_enc xs rest r (i + (encU 9 x).length) (fun y hy => hl y (by simp [hy])) (drop_next h1)]
    simp [encL, Nat.add_assoc]

theorem rIns_enc (op a b : Int) (l rest : List Int) (h : mayI op a b l = true) (ha : -9223372036854775808 ≤ a ∧ a ≤ 9223372036854775807) : rIns (encI op a b l ++ rest) = (⟨op, a, b, l⟩, ⟨(encI op a b l).length, 0⟩) := by
  obtain ⟨h1, h2, h3⟩ := may_parts h
  have hb := sh_bounds op
  obtain ⟨xs, hxs⟩ : ∃ xs, xs = encI op a b l ++ rest := ⟨_, rfl⟩
  have h0 : xs.drop 0 = op :: (tailI (sh op) a b l ++ rest) := by rw [hxs]; rfl
  have ho := rOne_enc h0
  have hd : xs.drop 1 = tailI (sh op) a b l ++ rest := by rw [hxs]; rfl
  rw [← hxs]
  have hlen : (encI op a b l).length = 1 + (tailI (sh op) a b l).length := by simp [encI]; omega
  rw [hlen]
  clear hlen
  unfold rIns
  rw [ho]
  simp only
  unfold rTail
  generalize hs : sh op = s at *
  have e : s = 0 ∨ s = 1 ∨ s = 2 ∨ s = 3 ∨ s = 4 ∨ s = 5 ∨ s = 6 ∨ s = 7 ∨ s = 8 ∨ s = 9 := by omega
  have hb0 : s ≠ 6 → b = 0 := fun h6 => by unfold mayBS at h2; rw [if_neg h6] at h2; simpa using h2
  have hl0 : s ≠ 4 → l = [] := fun h4 => by unfold mayLS at h3; rw [if_neg h4] at h3; simpa using h3
  rcases e with rfl | rfl | rfl | rfl | rfl | rfl | rfl | rfl | rfl | rfl
  · simp [mayAS] at h1
  · obtain rfl := hb0 (by decide)
    obtain rfl := hl0 (by decide)
    have : a = 0 := by simpa [mayAS] using h1
    subst this
    simp [tailI]
  · obtain rfl := hb0 (by decide)
    obtain rfl := hl0 (by decide)
    have ha2 : a = 0 ∨ a = 1 ∨ a = 2 := by simpa [mayAS] using h1
    have ho2 := rOne_enc (xs := xs) (i := 1) (x := resB a) (rest := rest) (by rw [hd]; rfl)
    simp only [show ¬ (2 : Int) = 0 by decide, if_false, if_true]
    unfold rRes
    rw [ho2]
    rcases ha2 with rfl | rfl | rfl <;> simp [resB, resA, need, tailI]
  · obtain rfl := hb0 (by decide)
    obtain rfl := hl0 (by decide)
    have hr := rA_enc (f := 3) (xs := xs) (i := 1) (rest := rest) (by rw [hd]; rfl) (by simp [mayAS] at h1; omega) (by simp [mayAS] at h1; omega) h1
    simp [hr, tailI]
  · obtain rfl := hb0 (by decide)
    have hl : l.length ≤ 50 ∧ ∀ x ∈ l, 0 ≤ x ∧ x ≤ 1000 := by simpa [mayLS, idx] using h3
    have hd1 : xs.drop 1 = encU 9 (l.length : Int) ++ (encL l ++ (encU 9 a ++ rest)) := by rw [hd]; simp [tailI]
    have hd2 := drop_next hd1
    have hd3 := drop_next hd2
    have hc := rU_enc hd1 (by omega) (by omega)
    have hls := rLs_enc xs (encU 9 a ++ rest) l _ hl.2 hd2
    have hr := rA_enc (f := 4) hd3 (by simp [mayAS] at h1; omega) (by simp [mayAS] at h1; omega) h1
    have hL : rL xs ⟨1, 0⟩ = (l, ⟨1 + (encU 9 (l.length : Int)).length + (encL l).length, 0⟩) := by
      unfold rL rCount
      rw [hc]
      simp only
      rw [show decide ((l.length : Int) ≤ 50) = true from by simp; omega, need_true]
      simpa using hls
    simp [hL, hr, tailI]
    omega
  · obtain rfl := hb0 (by decide)
    obtain rfl := hl0 (by decide)
    have hd1 : xs.drop 1 = encU 9 a ++ (0 :: rest) := by rw [hd]; simp [tailI]
    have hr := rA_enc (f := 5) hd1 (by simp [mayAS] at h1; omega) (by simp [mayAS] at h1; omega) h1
    have ho2 := rOne_enc (drop_next hd1)
    simp [hr, rZero, ho2, need, tailI]
    omega
  · obtain rfl := hl0 (by decide)
    have hd1 : xs.drop 1 = encU 9 a ++ (encU 9 b ++ rest) := by rw [hd]; simp [tailI]
    have hr := rA_enc (f := 6) hd1 (by simp [mayAS] at h1; omega) (by simp [mayAS] at h1; omega) h1
    have hr2 := rU_enc (drop_next hd1) (by simp [mayBS] at h2; omega) (by simp [mayBS] at h2; omega)
    simp [hr, hr2, tailI]
    omega
  · obtain rfl := hb0 (by decide)
    obtain rfl := hl0 (by decide)
    have : a = 0 := by simpa [mayAS] using h1
    subst this
    have ho2 := rOne_enc (xs := xs) (i := 1) (x := 0) (rest := rest) (by rw [hd]; rfl)
    simp [rZero, ho2, need, tailI]
  · obtain rfl := hb0 (by decide)
    obtain rfl := hl0 (by decide)
    have hr := rS_enc (xs := xs) (i := 1) (bits := 32) (rest := rest) (u := a) (by rw [hd]; rfl) (.inl ⟨rfl, by simp [mayAS] at h1; omega⟩)
    simp [hr, tailI]
  · obtain rfl := hb0 (by decide)
    obtain rfl := hl0 (by decide)
    have hr := rS_enc (xs := xs) (i := 1) (bits := 64) (rest := rest) (u := a) (by rw [hd]; rfl) (.inr ⟨rfl, ha⟩)
    simp [hr, tailI]
/-- What was put is told again. -/
theorem getI_enc (op a b : Int) (l rest : List Int) (h : mayI op a b l = true) (ha : -9223372036854775808 ≤ a ∧ a ≤ 9223372036854775807) : getI (encI op a b l ++ rest) = (⟨op, a, b, l⟩, (encI op a b l).length, 0) := by
  unfold getI
  rw [rIns_enc op a b l rest h ha]
  simp
/-- Two have one text just if they are the same. -/
theorem encI_inj {op a b op' a' b' : Int} {l l' : List Int} (h : mayI op a b l = true) (ha : -9223372036854775808 ≤ a ∧ a ≤ 9223372036854775807) (h' : mayI op' a' b' l' = true) (ha' : -9223372036854775808 ≤ a' ∧ a' ≤ 9223372036854775807)
    (he : encI op a b l = encI op' a' b' l') : op = op' ∧ a = a' ∧ b = b' ∧ l = l' := by
  have h1 := getI_enc op a b l [] h ha
  have h2 := getI_enc op' a' b' l' [] h' ha'
  rw [he, h2] at h1
  have h3 := congrArg Prod.fst h1
  simp only [Ins.mk.injEq] at h3
  exact ⟨h3.1.symm, h3.2.1.symm, h3.2.2.1.symm, h3.2.2.2.symm⟩
end Go.Proofs.Ytfambbpggodlkaa
