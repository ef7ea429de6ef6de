/- dev: Read. -/
import Derived.Test.YtinmkcbmnikpfaaDyB
import Derived.Deep.MidRow
namespace Go.Proofs.Ytinmkcbmnikpfaa
open Go.RowKit Go.Maps
set_option linter.unusedVariables false

/-- 'var s sector' and the like. -/
theorem wpList_var {P : Program} {w : World} {ops : Array Oper} {rest : List Oper} {o : Oper} {a : Act} {Q : Exit → Act → World → Prop} (hgd : o.guard = none) (t : TypeId) (ho : o.op = .alloc t) (cs : List Value)
    (hr : (Instr.alloc t true (.tuple #[])).run P w = .ok (.pointer (some ⟨w.heap.size, 0, none⟩)) (w.alloc (.cells cs.toArray t)))
    (h : ∀ w', Hid (Blk w' w.heap.size t cs ∧ Below w.heap.size w w') → w'.heap.size = w.heap.size + 1 → wpList P ops Q rest (a.put o.dst (.pointer (some ⟨w.heap.size, 0, none⟩))) w') : wpList P ops Q (o :: rest) a w := by
  refine wpList_plain hgd fun K hK => ?_
  unfold Oper.wp execOp
  simp only [ho, hr, Sem.run_bind, Sem.run_pure, Result.andThen_ok]
  exact hK _ _ (h _ ⟨Blk.new _ _ _, Bl.alloc (Bl.refl _) _⟩ (by simp))
theorem alloc46 (w : World) : (Instr.alloc 46 true (.tuple #[])).run Try.prog w = .ok (.pointer (some ⟨w.heap.size, 0, none⟩)) (w.alloc (.cells (cs8 zSec).toArray 46)) := by kernel_rfl
theorem size_setCells (g : Nat) : ∀ (vs : List Value) (w : World) (o : Nat), (w.setCells g o vs).heap.size = w.heap.size
  | [], _, _ => rfl
  | v :: vs, w, o => by
    show ((w.setCell ⟨g, o, none⟩ v).setCells g (o + 1) vs).heap.size = _
    rw [size_setCells g vs]
    simp [World.setCell]
/-- A value of a sector's is stored into a block that is known whole. -/
theorem wpList_store_blk {P : Program} {w : World} {ops : Array Oper} {rest : List Oper} {o : Oper} {a : Act} {Q : Exit → Act → World → Prop} (hgd : o.guard = none) (ty : TypeId) (x y : Operand) (ho : o.op = .store ty x y)
    (g : Nat) (cs vs : List Value) (t : TypeId) (hx : a.eval x = .pointer (some ⟨g, 0, none⟩)) (hy : a.eval y = .agg vs.toArray) (hb : Blk w g t cs) (hl : cs.length = vs.length) (hi : (P.info? ty).map (·.size) = some vs.length) (h1 : ∀ v ∈ vs, v.oneCell' = true)
    (h : ∀ w', Hid (Blk w' g t vs ∧ Wr g w w') → w'.heap.size = w.heap.size → wpList P ops Q rest (a.put o.dst undef) w') : wpList P ops Q (o :: rest) a w := by
  refine wpList_store_mid hgd ty x y ho g 0 vs.toArray hx hy (fun j hj => hb.there 0 cs.length (by omega) j (by simp only [List.size_toArray] at hj; omega)) (by simpa using hi) (by simpa using h1) ?_
  refine h _ ⟨?_, Wr.setCells (Wr.refl g w) _ _⟩ ?_
  · have := Blk.setCells vs hb 0 (by omega)
    rwa [show splice cs 0 vs = vs by simp [splice, hl]] at this
  · exact size_setCells _ _ _ _

theorem Blk.own {w : World} {g B : Nat} {t : TypeId} {k : IntKind} {xs : List Int} (h : Blk w g t (xs.map (Value.int k))) (hB : B ≤ g) (hw : ∀ x ∈ xs, (Lit.int k x).wf = true) (hm : xs.length ≤ maxLen) : Own t k B w (.slice (some ⟨g, 0, none⟩) xs.length xs.length) xs :=
  ⟨⟨by simp, .inr ⟨g, xs.length, (xs.map (Value.int k)).toArray, rfl, hB, h, Nat.le_refl _, hm, by simp, by simp; exact List.take_of_length_le (by simp)⟩⟩, hw⟩
theorem read_to {w : World} {M : Dv} {p bs cap bm : Nat} (h : DvL w M p bs cap bm) (i : Int) (hwi : (Lit.int .i64 i).wf = true) :
    Calls Try.prog 12 #[atp p, .int .i64 i] w fun e w' => ∃ v, e = .returned (.tuple #[v, .int .i64 (M.readE i)]) ∧ Own 46 .u8 w.heap.size w' v (M.read i) ∧ Below w.heap.size w w' := by
  have hh := has_to h i
  obtain ⟨c0, c1, c2, c3, c4⟩ := h.cells
  by_cases hi : 0 ≤ i ∧ i < (M.now.length : Int)
  · have e1 : M.readE i = 0 := by unfold Dv.readE; rw [if_neg (by omega)]
    have e2 : M.read i = M.now.getD i.toNat [] := by unfold Dv.read; rw [if_neg (by omega)]
    rw [e1, e2]
    rw [decide_eq_true hi] at hh
    obtain ⟨k, rfl⟩ : ∃ k : Nat, i = k := ⟨i.toNat, by omega⟩
    have hk : k < M.now.length := by omega
    have hr := h.rng hk
    have hn2 := h.ok.n2
    have hcap := h.capb
    obtain ⟨S, hS⟩ : ∃ S, M.now.getD k [] = S := ⟨_, rfl⟩
    have hok : secOk S := by rw [← hS]; refine h.ok.now _ ?_; simp [List.getD, hk]
    rw [Int.toNat_natCast, hS]
    rw [hS] at hr
    have hlen := cs8_len hok
    have hone := cs8_one S
    have HO := hid hok
    have hz := size46
    rw [← hlen] at hz
    obtain ⟨n, hn⟩ : ∃ n, M.now.length = n := ⟨_, rfl⟩
    rw [hn] at hk hn2 hcap c0
    clear h hi e1 e2 c1 c2 c3 c4 hS hok hn hwi
    go_enter Try.func12, Try.ntmps12
    go_wp2_with fail
    refine hh.mono ?_
    rintro e w' ⟨rfl, rfl⟩
    clear hh
    go_wp2_with (first
      | (refine wpList_load_mid rfl 46 (.tmp 18) rfl bs (k * 64) rfl (cs8 S) _ hr Try.underlying46 rfl hz ?_)
      | (refine wpList_var rfl 46 rfl (cs8 zSec) (alloc46 _) ?_; intro w1 H1 hs1)
      | (refine wpList_store_blk rfl 46 (.tmp 6) (.tmp 19) rfl w.heap.size (cs8 zSec) (cs8 S) 46 rfl rfl H1.out.1 (by rw [hlen]; rfl) hz hone ?_; intro w2 H2 hs2))
    go_ret2
    have hb := Blk.own H2.out.1 (Nat.le_refl _) HO.out.2 (by rw [HO.out.1]; unfold maxLen; omega)
    rw [HO.out.1] at hb
    refine ⟨_, rfl, hb, ?_⟩
    exact (H1.out.2.trans (H2.out.2.below (by omega) (Nat.le_refl _)))
  · have e1 : M.readE i = 3 := by unfold Dv.readE; rw [if_pos (by omega)]
    have e2 : M.read i = [] := by
      unfold Dv.read
      by_cases h0 : i < 0
      · rw [if_pos h0]
      · rw [if_neg h0, List.getD_eq_getElem?_getD, List.getElem?_eq_none (by omega)]; rfl
    rw [e1, e2]
    rw [decide_eq_false hi] at hh
    clear h hi e1 e2 c0 c1 c2 c3 c4 hwi
    go_enter Try.func12, Try.ntmps12
    go_wp2_with fail
    refine hh.mono ?_
    rintro e w' ⟨rfl, rfl⟩
    go_wp2_with fail
    go_ret2
    exact ⟨_, rfl, Own.nil _ _ _ _, Below.refl _ _⟩
theorem read_nil (i : Int) (w : World) : Calls Try.prog 12 #[.pointer none, .int .i64 i] w fun e w' => e = .returned (.tuple #[.slice none 0 0, .int .i64 10]) ∧ w = w' := by
  go_enter Try.func12, Try.ntmps12
  go_wp2_with fail
  go_ret2
  exact ⟨rfl, rfl⟩
end Go.Proofs.Ytinmkcbmnikpfaa
