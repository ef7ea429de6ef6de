/- mem: contracts of Pages, has, hasPage, page, canGrow, New, Load. -/
import Derived.Test.YtcbchhnbkgaboaaProg
import Derived.Test.YtcbchhnbkgaboaaMemM
import Derived.Deep.Cut
import Derived.BigRegion
import Derived.BigQuiet
import Derived.Deep.QuietTactic
namespace Go.Proofs.Ytcbchhnbkgaboaa
open Go.RowKit

/-- The memory M lies at block g. -/
structure MemAt (w : World) (g : Nat) (M : MM) : Prop where
  ok : M.ok
  blk : Blk w g 55 (memL M)
section
variable {w w' : World} {g : Nat} {M : MM}
theorem MemAt.c0 (h : MemAt w g M) : w.cell? ⟨g, 0, none⟩ = some (.int .i64 (M.p : Int)) := h.blk.cell 0
theorem MemAt.c1 (h : MemAt w g M) : w.cell? ⟨g, 1, none⟩ = some (.int .i64 M.q) := h.blk.cell 1
theorem MemAt.cc (h : MemAt w g M) (i : Nat) (hi : i < 4096) : w.cell? ⟨g, 2 + i, none⟩ = some (.int .u8 (M.c.getD i 0)) := (h.blk.cell _).trans (memL_c h.ok i hi)
theorem MemAt.cd (h : MemAt w g M) (i : Nat) (hi : i < 16) : w.cell? ⟨g, 4098 + i, none⟩ = some (.bool (M.d.getD i false)) := (h.blk.cell _).trans (memL_d h.ok i hi)
theorem MemAt.fr (h : MemAt w g M) (i : Nat) : w.frozen? ⟨g, i, none⟩ = false := h.blk.frozen i
theorem MemAt.lt (h : MemAt w g M) : g < w.heap.size := h.blk.lt
theorem MemAt.bl (h : MemAt w g M) (hb : Below w.heap.size w w') : MemAt w' g M := ⟨h.ok, h.blk.bl hb⟩
theorem MemAt.drewN (h : MemAt w g M) (n : Nat) : MemAt (w.drewN n) g M := ⟨h.ok, h.blk⟩
theorem MemAt.drew (h : MemAt w g M) : MemAt w.drew g M := ⟨h.ok, h.blk⟩
theorem MemAt.alloc (h : MemAt w g M) (o : Obj) : MemAt (w.alloc o) g M := ⟨h.ok, h.blk.alloc o⟩
theorem MemAt.far (h : MemAt w g M) {p : Addr} (hp : g ≠ p.block) (u : Value) : MemAt (w.setCell p u) g M := ⟨h.ok, h.blk.far hp u⟩
theorem MemAt.grown {row : Option Nat} (h : MemAt w g M) (hb : w.grownBy w' row) (hg : some g ≠ row) : MemAt w' g M := ⟨h.ok, h.blk.grown hb hg⟩
end

theorem pages_to (g : Nat) (M : MM) (w : World) (hM : MemAt w g M) : Calls Try.prog 19 #[.pointer (some ⟨g, 0, none⟩)] w fun e w' => e = .returned (.int .i64 (M.p : Int)) ∧ w = w' := by
  have c0 := hM.c0
  clear hM
  go_enter Try.func19, Try.ntmps19
  go_wp2
  go_ret
  exact ⟨rfl, rfl⟩
theorem pages_nil (w : World) : Calls Try.prog 19 #[.pointer none] w fun e w' => e = .returned (.int .i64 0) ∧ w = w' := by
  go_enter Try.func19, Try.ntmps19
  go_wp2
  go_ret
  exact ⟨rfl, rfl⟩

theorem has_to (g : Nat) (M : MM) (a n : Int) (w : World) (hM : MemAt w g M) : Calls Try.prog 23 #[.pointer (some ⟨g, 0, none⟩), .int .i64 a, .int .i64 n] w fun e w' => e = .returned (.bool (hasM M a n)) ∧ w = w' := by
  have hp := hM.ok.pl
  by_cases hn : n = 1 ∨ n = 4 ∨ n = 8
  · by_cases ha : 0 ≤ a
    · have e : hasM M a n = decide (a ≤ (M.p : Int) * 256 - n) := by unfold hasM; simp [hn, ha]
      rw [e]
      have := pages_to g M w hM
      clear hM e
      rcases hn with rfl | rfl | rfl
      all_goals
        go_enter Try.func23, Try.ntmps23
        go_wp2_with fail
        refine this.mono ?_
        rintro e w' ⟨rfl, rfl⟩
        go_wp2_with fail
        go_ret
        exact ⟨rfl, rfl⟩
    · have e : hasM M a n = false := by unfold hasM; simp [ha]
      rw [e]
      have ha' : decide (0 ≤ a) = false := by simpa using ha
      clear hM e
      rcases hn with rfl | rfl | rfl
      all_goals
        go_enter Try.func23, Try.ntmps23
        go_wp2_with fail
        go_ret
        exact ⟨rfl, rfl⟩
  · have e : hasM M a n = false := by unfold hasM; simp [hn]
    rw [e]
    have h1 : (n == 1) = false := by simp; omega
    have h2 : (n == 4) = false := by simp; omega
    have h3 : (n == 8) = false := by simp; omega
    clear hM e hn
    go_enter Try.func23, Try.ntmps23
    go_wp2_with fail
    go_ret
    exact ⟨rfl, rfl⟩

theorem hasPage_to (g : Nat) (M : MM) (i : Int) (w : World) (hM : MemAt w g M) : Calls Try.prog 24 #[.pointer (some ⟨g, 0, none⟩), .int .i64 i] w fun e w' => e = .returned (.bool (decide (0 ≤ i ∧ i < (M.p : Int)))) ∧ w = w' := by
  have := pages_to g M w hM
  by_cases h : 0 ≤ i
  · have e : decide (0 ≤ i ∧ i < (M.p : Int)) = decide (i < (M.p : Int)) := by simp [h]
    rw [e]
    clear e hM
    go_enter Try.func24, Try.ntmps24
    go_wp2_with fail
    refine this.mono ?_
    rintro e w' ⟨rfl, rfl⟩
    go_wp2_with fail
    go_ret
    exact ⟨rfl, rfl⟩
  · have e : decide (0 ≤ i ∧ i < (M.p : Int)) = false := by simp [h]
    rw [e]
    have h' : decide (0 ≤ i) = false := by simpa using h
    clear e hM
    go_enter Try.func24, Try.ntmps24
    go_wp2_with fail
    go_ret
    exact ⟨rfl, rfl⟩
theorem hasPage_nil (i : Int) (w : World) : Calls Try.prog 24 #[.pointer none, .int .i64 i] w fun e w' => e = .returned (.bool false) ∧ w = w' := by
  have := pages_nil w
  by_cases h : 0 ≤ i
  · have h2 : decide (i < 0) = false := by simpa using h
    go_enter Try.func24, Try.ntmps24
    go_wp2_with fail
    refine this.mono ?_
    rintro e w' ⟨rfl, rfl⟩
    go_wp2_with fail
    go_ret
    exact ⟨rfl, rfl⟩
  · have h' : decide (0 ≤ i) = false := by simpa using h
    go_enter Try.func24, Try.ntmps24
    go_wp2_with fail
    go_ret
    exact ⟨rfl, rfl⟩
theorem has_nil (a n : Int) (w : World) (hn : n = 1) (ha : a = 0) : Calls Try.prog 23 #[.pointer none, .int .i64 a, .int .i64 n] w fun e w' => e = .returned (.bool false) ∧ w = w' := by
  have := pages_nil w
  subst hn ha
  go_enter Try.func23, Try.ntmps23
  go_wp2_with fail
  refine this.mono ?_
  rintro e w' ⟨rfl, rfl⟩
  go_wp2_with fail
  go_ret
  exact ⟨rfl, rfl⟩

theorem cut53 (g : Nat) (l : Int) (l' : Nat) (hl : l = l') (h : l' < 4096) (w : World) : (Instr.sliceAt 53 (.pointer (some ⟨g, 2, none⟩)) (some (.int .i64 l)) none none).run Try.prog w = .ok (.slice (some ⟨g, 2 + l', none⟩) (4096 - l') (4096 - l')) w :=
  run_cutA 53 Try.underlying53 (fun _ => rfl) g 2 4096 rfl .i64 l l' hl h w
theorem page_to (g : Nat) (M : MM) (i : Nat) (w : World) (hM : MemAt w g M) (hi : i < 16) : Calls Try.prog 25 #[.pointer (some ⟨g, 0, none⟩), .int .i64 (i : Int)] w fun e w' => e = .returned (.slice (some ⟨g, 2 + 256 * i, none⟩) 256 (4096 - 256 * i)) ∧ w = w' := by
  have c0 := hM.c0
  have h1 := cut53 g ((i : Int) * 256) (256 * i) (by omega) (by omega)
  have h2 := fun w => run_cutS (P := Try.prog) 28 Try.underlying28 (s := 1) (fun _ => rfl) g (2 + 256 * i) (4096 - 256 * i) (4096 - 256 * i) .i64 256 256 rfl (by omega) (by omega) w
  clear hM
  go_enter Try.func25, Try.ntmps25
  go_wp2_with fail
  go_ret
  exact ⟨rfl, rfl⟩

/-- May n pages more be? -/
def mayM (M : MM) (n : Int) : Bool := decide (0 ≤ n ∧ (M.p : Int) + n ≤ M.q)
theorem canGrow_to (g : Nat) (M : MM) (n : Int) (w : World) (hM : MemAt w g M) : Calls Try.prog 22 #[.pointer (some ⟨g, 0, none⟩), .int .i64 n] w fun e w' => e = .returned (.bool (mayM M n)) ∧ Below w.heap.size w w' := by
  have c0 := hM.c0
  have c1 := hM.c1
  have hp := hM.ok.pl
  have hq := hM.ok.ql
  have hlt := hM.lt
  clear hM
  by_cases h1 : 0 ≤ n
  · by_cases h2 : n ≤ 16
    · have e : mayM M n = decide ((M.p : Int) + n ≤ M.q) := by unfold mayM; simp [h1]
      rw [e]
      clear e
      have e1 : decide (0 ≤ n) = true := by simpa using h1
      have e2 : decide (n ≤ 16) = true := by simpa using h2
      have e3 : IntKind.i64.wrap ((M.p : Int) + n) = (M.p : Int) + n := IntWalk.i64_in _ (by omega)
      go_enter Try.func22, Try.ntmps22
      go_wp2_with fail
      go_quiet (fail)
      go_wp2_with fail
      go_ret
      exact ⟨rfl, below_drewN _ _ _⟩
    · have e : mayM M n = false := by unfold mayM; simp; omega
      rw [e]
      clear e
      have e1 : decide (0 ≤ n) = true := by simpa using h1
      have e2 : decide (n ≤ 16) = false := by simp; omega
      go_enter Try.func22, Try.ntmps22
      go_wp2_with fail
      go_quiet (fail)
      go_wp2_with fail
      go_ret
      exact ⟨rfl, below_drewN _ _ _⟩
  · have e : mayM M n = false := by unfold mayM; simp; omega
    rw [e]
    clear e
    have e1 : decide (0 ≤ n) = false := by simpa using h1
    go_enter Try.func22, Try.ntmps22
    go_wp2_with fail
    go_quiet (fail)
    go_wp2_with fail
    go_ret
    exact ⟨rfl, below_drewN _ _ _⟩

/-! New. -/
def limV (has : Bool) (lo hi : Int) : Value := .agg #[.bool has, .int .i64 lo, .int .i64 hi]
theorem build55 (x y : Int) (w : World) : (Instr.build 55 #[(0, .int .i64 x), (1, .int .i64 y)]).run Try.prog w = .ok (.agg (Value.int .i64 x :: Value.int .i64 y :: ((zer 4096).map (Value.int .u8) ++ (fls 16).map Value.bool)).toArray) w := by kernel_rfl
theorem new_no (has : Bool) (lo hi : Int) (w : World) (h : has = false ∨ lo < 0 ∨ 16 < lo) : Calls Try.prog 12 #[limV has lo hi] w fun e w' => e = .returned (.pointer none) ∧ Below w.heap.size w w' := by
  unfold limV
  cases has with
  | false =>
    clear h
    go_enter Try.func12, Try.ntmps12
    go_wp2_with fail
    go_ret
    exact ⟨rfl, Bl.alloc (Bl.refl _) _⟩
  | true =>
    have h : lo < 0 ∨ 16 < lo := by simpa using h
    rcases h with h | h
    all_goals
      go_enter Try.func12, Try.ntmps12
      go_wp2_with fail
      go_ret
      exact ⟨rfl, Bl.alloc (Bl.refl _) _⟩
set_option maxHeartbeats 1000000 in
theorem new_to (lo : Nat) (hi : Int) (w : World) (h : lo ≤ 16) : Calls Try.prog 12 #[limV true lo hi] w fun e w' => e = .returned (.pointer (some ⟨w.heap.size + 1, 0, none⟩)) ∧ MemAt w' (w.heap.size + 1) (newM lo hi) ∧ Below w.heap.size w w' := by
  unfold limV
  obtain ⟨X, hX⟩ : ∃ X, X = ((zer 4096).map (Value.int .u8) ++ (fls 16).map Value.bool) := ⟨_, rfl⟩
  have hb := fun x y w => build55 x y w
  rw [← hX] at hb
  have hok := newM_ok lo hi h
  have hL : memL (newM lo hi) = Value.int .i64 (lo : Int) :: Value.int .i64 (if hi = -1 then 16 else min hi 16) :: X := by rw [hX]; rfl
  have HL := hid hL
  have HOK := hid hok
  clear hL hok hX
  by_cases h1 : hi = -1
  · subst h1
    rw [if_pos rfl] at HL
    go_enter Try.func12, Try.ntmps12
    go_wp2_with (with_reducible refine wpList_build (o := ⟨some 25, .build 55 #[(0, .tmp 22), (1, .tmp 24)], 55, _, _, none⟩) rfl 55 #[(0, .tmp 22), (1, .tmp 24)] rfl _ ?hv1 _ (hb (lo : Int) 16 _) ?_)
    go_ret
    refine ⟨rfl, ⟨HOK.out, ?_⟩, Bl.alloc (Bl.alloc (Bl.refl _) _) _⟩
    rw [HL.out]
    exact Blk.new_at _ _ _ (by simp)
  · have h2 : (hi == -1) = false := by simpa using h1
    rw [if_neg h1] at HL
    clear h1
    by_cases h3 : hi ≤ 16
    · rw [Int.min_eq_left h3] at HL
      go_enter Try.func12, Try.ntmps12
      go_wp2_with (with_reducible refine wpList_build (o := ⟨some 25, .build 55 #[(0, .tmp 22), (1, .tmp 24)], 55, _, _, none⟩) rfl 55 #[(0, .tmp 22), (1, .tmp 24)] rfl _ ?hv2 _ (hb (lo : Int) hi _) ?_)
      go_ret
      refine ⟨rfl, ⟨HOK.out, ?_⟩, Bl.alloc (Bl.alloc (Bl.refl _) _) _⟩
      rw [HL.out]
      exact Blk.new_at _ _ _ (by simp)
    · rw [Int.min_eq_right (by omega)] at HL
      go_enter Try.func12, Try.ntmps12
      go_wp2_with (with_reducible refine wpList_build (o := ⟨some 25, .build 55 #[(0, .tmp 22), (1, .tmp 24)], 55, _, _, none⟩) rfl 55 #[(0, .tmp 22), (1, .tmp 24)] rfl _ ?hv3 _ (hb (lo : Int) 16 _) ?_)
      go_ret
      refine ⟨rfl, ⟨HOK.out, ?_⟩, Bl.alloc (Bl.alloc (Bl.refl _) _) _⟩
      rw [HL.out]
      exact Blk.new_at _ _ _ (by simp)
end Go.Proofs.Ytcbchhnbkgaboaa
