/- Appends of many instructions. -/
import Derived.Test.YtfambbpggodlkaaCodeBegun
namespace Go.Proofs.Ytfambbpggodlkaa
open Go.RowKit

/-- A slice of the call's own (its block is at least number B); the lists of its instructions lie below B. -/
def OwnL (B : Nat) (w : World) (v : Value) (is : List Ins) : Prop :=
  ∃ ps : List IP, ps.map IP.ins = is ∧ w.ownsRow B 39 4 v ps.length (ps.flatMap IP.cells) ∧ ∀ p ∈ ps, Rd .i64 w p.lo p.ln p.lc p.l ∧ ∀ ad, p.lo = some ad → ad.block < B
theorem OwnL.nil (B : Nat) (w : World) : OwnL B w (.slice none 0 0) [] := ⟨[], rfl, World.ownsRow_nil w B _ 4, fun _ h => by cases h⟩
theorem OwnL.below {B K : Nat} {w w' : World} {v : Value} {is : List Ins} (h : OwnL B w v is) (hb : Below K w w') (hK : w.heap.size ≤ K) : OwnL B w' v is := by
  obtain ⟨ps, e, hrow, hin⟩ := h
  refine ⟨ps, e, hrow.kept (row := none) ⟨hb.os, hb.tape, hb.output, hb.size, fun k hk _ => hb.block k (by omega)⟩ ?_, fun p hp => ?_⟩
  · cases hv : v.ownBlock <;> simp
  · obtain ⟨hr, hC⟩ := hin p hp
    exact ⟨hr.below (hb.mono hK), hC⟩
theorem OwnL.owned {B : Nat} {w : World} {v : Value} {is : List Ins} (h : OwnL B w v is) (hB : B ≤ w.heap.size) : OwnP B w v is := by
  obtain ⟨ps, e, hrow, hin⟩ := h
  refine ⟨ps, e, hrow, fun p hp => ⟨(hin p hp).1, fun ad ha => ?_⟩⟩
  have := (hin p hp).2 ad ha
  refine ⟨by omega, fun q => ?_⟩
  have := (hrow.lt _ q).1
  omega

theorem RdP.ips {w : World} {C : Addr → Prop} {ad : Addr} {n cap : Nat} {js : List Ins} (h : RdP w C (some ad) n cap js) : ∃ ps : List IP, ps.map IP.ins = js ∧ ps.length = n ∧ (∀ j u, (ps.flatMap IP.cells)[j]? = some u → w.cell? (ad.add j) = some u) ∧ ∀ p ∈ ps, Rd .i64 w p.lo p.ln p.lc p.l ∧ ∀ a, p.lo = some a → C a := by
  have key : ∀ i : Nat, ∃ p : IP, i < n → p.ins = js.getD i default ∧ (∀ j u, p.cells[j]? = some u → w.cell? (ad.add (i * 4 + j)) = some u) ∧ Rd .i64 w p.lo p.ln p.lc p.l ∧ ∀ a, p.lo = some a → C a := by
    intro i
    by_cases hi : i < n
    · obtain ⟨b, off, lo, ln, lc, e, c0, c1, c2, c3, hr, hC⟩ := h.cell i hi
      cases e
      refine ⟨⟨(js.getD i default).op, (js.getD i default).a, (js.getD i default).b, lo, ln, lc, (js.getD i default).l⟩, fun _ => ⟨rfl, fun j u hu => ?_, hr, hC⟩⟩
      have hj : j < 4 := by have := (List.getElem?_eq_some_iff.1 hu).1; simpa [IP.cells] using this
      rw [Addr.add_lit, ← Nat.add_assoc]
      have h4 : j = 0 ∨ j = 1 ∨ j = 2 ∨ j = 3 := by omega
      rcases h4 with rfl | rfl | rfl | rfl
      · rw [Nat.add_zero, c0]; exact hu
      · rw [c1]; exact hu
      · rw [c2]; exact hu
      · rw [c3]; exact hu
    · exact ⟨default, fun h => absurd h hi⟩
  obtain ⟨f, hf⟩ := Classical.axiomOfChoice key
  have hl : ((List.range n).map f).length = n := by simp
  refine ⟨(List.range n).map f, ?_, hl, fun j u hu => ?_, fun p hp => ?_⟩
  · apply List.ext_getElem
    · simp [h.len]
    · intro i h1 h2
      have hi : i < n := by simpa using h1
      have := (hf i hi).1
      simp only [List.getElem_map, List.getElem_range, this]
      simp [List.getD, h2]
  · have hj : j < ((List.range n).map f).length * 4 := by
      have := (List.getElem?_eq_some_iff.1 hu).1
      rwa [flat_len] at this
    rw [hl] at hj
    have hi : j / 4 < n := by omega
    have hat := flat_at ((List.range n).map f) (j / 4) (j % 4) (by rw [hl]; exact hi) (Nat.mod_lt _ (by decide))
    have e : j / 4 * 4 + j % 4 = j := by omega
    rw [e, hu] at hat
    have := (hf (j / 4) hi).2.1 (j % 4) u (by
      have hq := hat.symm
      simpa using hq)
    rwa [e] at this
  · obtain ⟨i, hi, rfl⟩ := List.mem_map.1 hp
    exact (hf i (by simpa using hi)).2.2

theorem runL_append {B : Nat} {w : World} {v : Value} {is js : List Ins} {ad : Addr} {n cap : Nat} (ty : TypeId) (hown : OwnL B w v is) (hr : RdP w (fun a => a.block < B) (some ad) n cap js) (hl : is.length + n ≤ 1000) (hB : B ≤ w.heap.size) :
    ∃ v' w', (Builtin.append_ #[22, 22] ty #[v, .slice (some ad) n cap]).run Try.prog w = .ok v' w' ∧ OwnL B w' v' (is ++ js) ∧ w.grownBy w' v.ownBlock := by
  obtain ⟨i0', hi0, hz0, hz1, hz2⟩ := info_parts infoIns
  obtain ⟨ps, hps, hrow, hin⟩ := hown
  obtain ⟨qs, hqs, hqn, hcell, hq⟩ := hr.ips
  have hpl : ps.length = is.length := by have := congrArg List.length hps; simpa using this
  obtain ⟨v', w', hrun, h2, h3, _⟩ := run_append_own (P := Try.prog) w B 22 ty 39 i0' _ 4 48 Try.underlying22 hi0 hz0 hz1 hz2 rfl (by decide) v ps.length _ hrow ad n cap (qs.flatMap IP.cells) (by rw [flat_len, hqn]) hcell (by
    intro u hu
    obtain ⟨p, _, hp⟩ := List.mem_flatMap.1 hu
    simp [IP.cells] at hp
    rcases hp with rfl | rfl | rfl | rfl <;> rfl) (by unfold maxLen; omega) (by omega) hB
  refine ⟨v', w', hrun, ⟨ps ++ qs, by rw [List.map_append, hps, hqs], ?_, fun p hp => ?_⟩, h3⟩
  · rw [List.length_append, hqn, List.flatMap_append]
    exact h2
  · rcases List.mem_append.1 hp with hp | hp
    · obtain ⟨r1, r2⟩ := hin p hp
      refine ⟨r1.grown h3 (fun a ha e => ?_), r2⟩
      have := (hrow.lt _ e).1
      have := r2 a ha
      omega
    · obtain ⟨r1, r2⟩ := hq p hp
      refine ⟨r1.grown h3 (fun a ha e => ?_), r2⟩
      have := (hrow.lt _ e).1
      have := r2 a ha
      omega

theorem wpList_append_ps {w : World} {ops : Array Oper} {rest : List Oper} {o : Oper} {a : Act} {Q : Exit → Act → World → Prop} (hgd : o.guard = none) (s x : Operand)
    (ho : o.op = .call { callee := .builtin .append, args := #[s, x], argTypes := #[22, 22] })
    (B : Nat) (v : Value) (is js : List Ins) (hs : a.eval s = v) (hown : OwnL B w v is) (ad : Addr) (n cap : Nat) (hx : a.eval x = .slice (some ad) n cap) (hr : RdP w (fun a => a.block < B) (some ad) n cap js) (hl : is.length + n ≤ 1000) (hB : B ≤ w.heap.size)
    (h : ∀ v' w', OwnL B w' v' (is ++ js) → Below B w w' → wpList Try.prog ops Q rest (a.put o.dst v') w') : wpList Try.prog ops Q (o :: rest) a w := by
  obtain ⟨v', w', hrun, h1, h2⟩ := runL_append o.type hown hr hl hB
  have hlt : ∀ b, v.ownBlock = some b → B ≤ b := by
    obtain ⟨_, _, hrow, _⟩ := hown
    exact fun b hb => (hrow.lt b hb).1
  refine wpList_plain hgd fun K hK => ?_
  unfold Oper.wp
  rw [exec_append ho hs hx hrun]
  exact hK _ _ (h v' w' h1 ((Below.refl _ _).grown h2 hB hlt))
end Go.Proofs.Ytfambbpggodlkaa
