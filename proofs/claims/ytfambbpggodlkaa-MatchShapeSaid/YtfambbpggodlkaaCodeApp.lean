/- An append of one instruction that is its byte alone. Bodies that are written out. -/
import Derived.Test.YtfambbpggodlkaaCodeBegun
namespace Go.Proofs.Ytfambbpggodlkaa
open Go.RowKit

theorem wpList_app_bare {w : World} {ops : Array Oper} {rest : List Oper} {o : Oper} {a : Act} {Q : Exit → Act → World → Prop} (hgd : o.guard = none) (s x : Operand)
    (ho : o.op = .call { callee := .builtin .append, args := #[s, x], argTypes := #[22, 22] })
    (B : Nat) (v : Value) (is : List Ins) (hs : a.eval s = v) (hown : OwnP B w v is) (op : Int) (b : Nat) (hx : a.eval x = .slice (some ⟨b, 0, none⟩) 1 1)
    (hc : ∀ j u, (bareC op)[j]? = some u → w.cell? ((⟨b, 0, none⟩ : Addr).add j) = some u) (hl : is.length ≤ 1000) (hB : B ≤ w.heap.size)
    (h : ∀ v' w', OwnP B w' v' (is ++ [bare op]) → Below B w w' → wpList Try.prog ops Q rest (a.put o.dst v') w') : wpList Try.prog ops Q (o :: rest) a w := by
  obtain ⟨i0', hi0, hz0, hz1, hz2⟩ := info_parts infoIns
  have hlt := hown.lt
  obtain ⟨ps, hps, hrow, hin⟩ := hown
  have hpl : ps.length = is.length := by have := congrArg List.length hps; simpa using this
  refine wpList_append_lies _ hgd s x 22 ho B 39 i0' _ 4 48 Try.underlying22 hi0 hz0 hz1 hz2 rfl (by decide) v ps.length _ hs hrow ⟨b, 0, none⟩ 1 1 (bareC op) hx rfl hc (by simp [bareC, Value.oneCell']) (by decide) (by unfold maxLen; omega) (by omega) hB (w.heap.size) rfl ?_
  intro g cap w2 o2 g2 hg2 _
  refine h _ _ ?_ (grow_below (Below.refl _ _) (Bl.refl w) g2 (fun b hb => (hlt b hb).1) hB)
  exact OwnP.step hps hin ⟨op, 0, 0, none, 0, 0, []⟩ (Rd.empty _ _) (fun ad ha => by cases ha) o2 g2 hg2 rfl

theorem bare_ok (ops : List Int) : ∀ I ∈ ops.map bare, okI I := by
  intro I hI
  obtain ⟨x, _, rfl⟩ := List.mem_map.1 hI
  exact ⟨by simp [bare], by simp [bare]⟩

/-! MatchDeep's body. -/
def begs : Nat → List Int
  | 0 => []
  | n + 1 => begs n ++ [2 + (n : Int) % 2]
theorem begs_len : ∀ n, (begs n).length = n
  | 0 => rfl
  | n + 1 => by simp [begs, begs_len n]
theorem begs_begins (n : Nat) : begins (2 + (n : Int) % 2) = true := by
  have : (n : Int) % 2 = 0 ∨ (n : Int) % 2 = 1 := by omega
  rcases this with h | h <;> rw [h] <;> rfl
theorem run_begs : ∀ n, n ≤ 40 → ∃ s, runN 0 (begs n) nsStart = some s ∧ s.op.length = n ∧ s.bl.length = n
  | 0, _ => ⟨nsStart, rfl, rfl, rfl⟩
  | n + 1, h => by
    obtain ⟨s, h1, h2, h3⟩ := run_begs n (by omega)
    refine ⟨⟨s.bl ++ [⟨n, -1, -1⟩], (s.bl.length, (2 + (n : Int) % 2) == 4) :: s.op⟩, ?_, by simp [h2], by simp [h3]⟩
    rw [begs, runN_snoc, h1, begs_len]
    simp only [Option.bind_some, Nat.zero_add]
    unfold nsStep
    rw [if_pos (begs_begins n), if_neg (by omega)]
theorem run_begs_many : ∀ n, 40 < n → runN 0 (begs n) nsStart = none
  | 0, h => by omega
  | n + 1, h => by
    rw [begs, runN_snoc]
    by_cases h40 : n = 40
    · subst h40
      obtain ⟨s, h1, h2, h3⟩ := run_begs 40 (Nat.le_refl _)
      rw [h1, begs_len]
      simp only [Option.bind_some, Nat.zero_add]
      unfold nsStep
      rw [if_pos (begs_begins 40), if_pos h2]
    · rw [run_begs_many n (by omega)]
      rfl
theorem run_ones : ∀ (m k : Nat) (s : Ns), runN k (List.replicate m 1) s = some s
  | 0, k, s => rfl
  | m + 1, k, s => by
    rw [List.replicate_succ, runN]
    have : nsStep k 1 s = some s := by
      unfold nsStep
      rw [if_neg (by decide), if_neg (by decide), if_neg (by decide)]
    rw [this]
    exact run_ones m (k + 1) s
theorem run_ends : ∀ (m k : Nat) (s : Ns), m ≤ s.op.length → ∃ s', runN k (List.replicate m 11) s = some s' ∧ s'.op.length = s.op.length - m ∧ s'.bl.length = s.bl.length
  | 0, k, s, _ => ⟨s, rfl, rfl, rfl⟩
  | m + 1, k, s, h => by
    rw [List.replicate_succ, runN]
    match hop : s.op with
    | [] => rw [hop] at h; simp at h
    | (k0, f0) :: r =>
      have : nsStep k 11 s = some ⟨nsEnd s k0 k, r⟩ := by
        unfold nsStep
        rw [if_neg (by decide), if_neg (by decide), if_pos rfl, hop]
      rw [this]
      obtain ⟨s', h1, h2, h3⟩ := run_ends m (k + 1) ⟨nsEnd s k0 k, r⟩ (by rw [hop] at h; simpa using h)
      refine ⟨s', h1, ?_, ?_⟩
      · rw [h2]
        simp
      · rw [h3]
        simp [nsEnd]
def deepL (n pad : Nat) : List Int := begs n ++ List.replicate pad 1 ++ List.replicate n 11
theorem deep_len (n pad : Nat) : (deepL n pad).length = 2 * n + pad := by simp [deepL, begs_len]; omega
theorem deep_no {n pad : Nat} (h : 40 < n ∨ 300 < 2 * n + pad) : fits (deepL n pad) = none := by
  by_cases h3 : 300 < 2 * n + pad
  · exact fits_long (by rw [deep_len]; exact h3)
  · refine fits_none (k := n) ?_
    have : (deepL n pad).take n = begs n := by
      unfold deepL
      rw [List.append_assoc, List.take_left' (begs_len n)]
    rw [this]
    exact run_begs_many n (by omega)
theorem deep_yes {n pad : Nat} (h1 : n ≤ 40) (h2 : 2 * n + pad ≤ 300) : ∃ bl, fits (deepL n pad) = some bl ∧ bl.length = n := by
  obtain ⟨s, a1, a2, a3⟩ := run_begs n h1
  obtain ⟨s', b1, b2, b3⟩ := run_ends n (0 + (begs n ++ List.replicate pad 1).length) s (by omega)
  refine ⟨s'.bl, ?_, by omega⟩
  refine fits_some ?_ (by omega) (by rw [deep_len]; exact h2)
  unfold deepL
  rw [runN_append, runN_append, a1]
  simp only [Option.bind_some]
  rw [run_ones]
  exact b1
end Go.Proofs.Ytfambbpggodlkaa
