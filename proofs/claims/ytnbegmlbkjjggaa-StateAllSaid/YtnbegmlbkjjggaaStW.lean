/- state's laws: diapauselaw13.vals. -/
import Derived.Test.YtnbegmlbkjjggaaStV
namespace Go.Proofs.Ytnbegmlbkjjggaa
open Go.RowKit
set_option linter.unusedVariables false

theorem infoVal : (Try.prog.info? 39).map (fun i => (i.zero, i.size, i.bytes)) = some (some (.agg #[.int .i64 0, .int .i64 0]), 2, 16) := by kernel_rfl
theorem infoLab : (Try.prog.info? 44).map (fun i => (i.zero, i.size, i.bytes)) = some (some (.agg #[.int .i64 0, .int .i64 0]), 2, 16) := by kernel_rfl
theorem pa_bx {C : Nat → Prop} {w : World} {x y : Int} (h1 : (Lit.int .i64 x).wf = true) (h2 : (Lit.int .i64 y).wf = true) : Bx C w fun w => PaR w [.int .i64 x, .int .i64 y] (x, y) := fun _ _ => ⟨rfl, h1, h2⟩
set_option maxHeartbeats 1000000 in
theorem vals_to (m : Nat) (m' : Int) (hm' : m' = m) (hm : m ≤ 1000) (ao : Option Addr) (n cap : Nat) (xs : List (Int × Int)) (w : World) (hr : RdG 2 PaR w ao n cap xs) :
    Calls Try.prog 20 #[.slice ao n cap, .int .i64 m'] w fun e w' => ∃ v, e = .returned v ∧ OwnG 39 2 PaR w.heap.size w' v (xs.take m) ∧ Below w.heap.size w w' := by
  subst hm'
  have hn63 := hr.cap63.1
  have Hr := hid hr
  have Hx := hid hr.len
  clear hr
  go_enter Try.func20, Try.ntmps20
  go_wp2_with fail
  go_loopw [5, 6] (fun v i wr => ∃ k : Nat, k ≤ n ∧ k ≤ m ∧ i = .int .i64 k ∧ OwnG 39 2 PaR w.heap.size wr v (xs.take k) ∧ Below w.heap.size w wr) (fun _ i _ => m - (intOf i).toNat)
  case atStart => exact ⟨0, Nat.zero_le _, Nat.zero_le _, rfl, by simpa using OwnG.nil _ _ _ _ _, Below.refl _ _⟩
  case round =>
    obtain ⟨k, hkn, hkm, rfl, hown, hb⟩ := hrel
    have hsz := hb.size
    have HO := hid hown
    have HB := hid hb
    clear hown hb
    by_cases hk : k < n ∧ k < m
    · obtain ⟨hk, hk3⟩ := hk
      obtain ⟨b, off, x, y, rfl, hxy, hc, hc1, hw1, hw2⟩ := (Hr.out.below2 HB.out).at2 hk
      have htk : xs.take (k + 1) = xs.take k ++ [(x, y)] := by rw [List.take_add_one, hxy]; rfl
      have HT := hid htk
      have HW1 := hid hw1
      have HW2 := hid hw2
      have HTL : Hid ((xs.take k).length = k) := hid (by have := Hx.out; simp; omega)
      obtain ⟨ys, hys⟩ : ∃ ys, ys = xs.take k := ⟨_, rfl⟩
      rw [← hys] at HO HT HTL
      clear htk hys hxy hw1 hw2
      go_wp2_with (at_builtin; refine wpList_append_g rfl (.tmp 18) (.tmp 23) 22 rfl 16 (.agg #[.int .i64 0, .int .i64 0]) Try.underlying22 infoVal rfl (by decide) rfl (HO.out.alloc _) (by go_simp; omega) wr.heap.size [.int .i64 x, .int .i64 y] rfl rfl (Cel.new wr [.int .i64 x, .int .i64 y] 39).cell (by simp [Value.oneCell']) (x, y) (pa_bx HW1.out HW2.out) (by rw [HTL.out]; omega) (by rw [HTL.out]; omega) ?_; intro v2 w2 h3 h4; have HO2 := hid h3; have HB2 := hid ((HB.out.trans ((Bl.alloc (Bl.refl wr) (.cells #[.int .i64 x, .int .i64 y] 39)).mono hsz)).grown h4 (by simp; omega) (fun g hg => (HO.out.lt g hg).1)); clear h3 h4)
      go_roundw
      case rel => exact ⟨k + 1, by omega, by omega, by go_num, by rw [HT.out]; exact HO2.out, HB2.out⟩
      case measure => simp [intOf]; omega
    · have htk : xs.take m = xs.take k := by
        rcases Nat.lt_or_ge k m with h3 | h3
        · have : ¬ k < n := fun h => hk ⟨h, h3⟩
          rw [List.take_of_length_le (by rw [Hx.out]; omega), List.take_of_length_le (by rw [Hx.out]; omega)]
        · rw [show k = m by omega]
      rw [← htk] at HO
      clear htk
      rcases Nat.lt_or_ge k n with h3 | h3
      · have hk3 : ¬ k < m := fun h => hk ⟨h3, h⟩
        go_wp2_with fail
        go_ret
        exact ⟨_, rfl, HO.out, HB.out⟩
      · go_wp2_with fail
        go_ret
        exact ⟨_, rfl, HO.out, HB.out⟩
end Go.Proofs.Ytnbegmlbkjjggaa
