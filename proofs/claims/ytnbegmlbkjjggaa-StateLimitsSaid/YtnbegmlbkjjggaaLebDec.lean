import Derived.Test.YtnbegmlbkjjggaaLeb
namespace Go.Proofs.Ytnbegmlbkjjggaa
open Go.RowKit

theorem and127_u8 (x : Int) : bits BinOp.and IntKind.u8 x 127 = x % 128 :=
  bits_and_mask .u8 7 (by decide) (fun n h0 h1 => by
    have : (2:Int)^7 = 128 := by decide
    exact IntWalk.u8_in n (by omega)) x

theorem last_range (ao : Option Addr) (n cap : Nat) (bits : Int) (w : World) (h : bits < 1 ∨ 64 < bits) :
    Calls Try.prog 66 #[.slice ao n cap, .int .i64 bits] w fun e w' => e = .returned (.tuple #[.int .i64 0, .int .i64 3]) ∧ w = w' := by
  by_cases h1 : bits < 1
  · go_enter Try.func66, Try.ntmps66
    go_wp2_with fail
    go_step3
    go_wp2_with fail
    rw [Exit.noGoto_ret]
    go_ret2
    exact ⟨rfl, rfl⟩
  · have h2 : 64 < bits := by omega
    go_enter Try.func66, Try.ntmps66
    go_wp2_with fail
    go_step3
    go_wp2_with fail
    rw [Exit.noGoto_ret]
    go_ret2
    exact ⟨rfl, rfl⟩

/-- The byte k bears the mark. -/
theorem mark_of {x : Int} (h0 : 0 ≤ x) (h1 : x ≤ 255) : (bits BinOp.and IntKind.u8 x 128 != 0) = decide (128 ≤ x) := by
  rw [and128 x h0 h1]
  by_cases h : 128 ≤ x
  · simp [h]; omega
  · simp [h]; omega

set_option maxHeartbeats 400000 in
theorem last_go (ao : Option Addr) (n cap : Nat) (xs : List Int) (bits : Int) (w : World) (hr : Rd .u8 w ao n cap xs) (h1 : 1 ≤ bits) (h2 : bits ≤ 64) (m : Nat) (hm : (m : Int) = (bits + 6) / 7) :
    Calls Try.prog 66 #[.slice ao n cap, .int .i64 bits] w fun e w' => w = w' ∧
      ((∃ k, Stop xs m k ∧ e = .returned (.tuple #[.int .i64 k, .int .i64 0])) ∨ ((m ≤ xs.length ∧ ∀ i, i < m → 128 ≤ xs.getD i 0) ∧ e = .returned (.tuple #[.int .i64 0, .int .i64 1])) ∨
       ((xs.length < m ∧ ∀ i, i < xs.length → 128 ≤ xs.getD i 0) ∧ e = .returned (.tuple #[.int .i64 0, .int .i64 2]))) := by
  have Hm := hid hm
  have hm1 : 1 ≤ m := by omega
  have hm2 : m ≤ 10 := by omega
  clear hm
  go_enter Try.func66, Try.ntmps66
  go_wp2_with fail
  refine wp_scope_loop 0 (fun a' w' => w' = w ∧ ∃ (k : Nat) (q r u2 u3 u8 u9 u10 u11 u12 u13 u14 u15 u16 u17 u18 u19 u20 u21 u22 u23 u24 u25 u26 u27 u28 u29 u30 u31 u32 u33 : Value),
      a' = { tmps := #[.slice ao n cap, .int .i64 bits, u2, u3, .int .i64 0, .int .i64 0, q, r, u8, u9, u10, u11, u12, u13, u14, u15, u16, u17, u18, u19, u20, u21, u22, u23, u24, u25, u26, u27, u28, u29, u30, u31, u32, u33], defers := [] } ∧
      q = .int .i64 m ∧ r = .int .i64 k ∧ k ≤ m ∧ k ≤ n ∧ ∀ i, i < k → 128 ≤ xs.getD i 0)
    (fun a' _ => m - (intOf (a'.tmps.getD 7 undef)).toNat) rfl ?_ ?_
  · intro Q' hQ'
    go_wp2_with fail
    go_step3
    rename_i K hK
    refine hK _ _ (hQ' _ _ ⟨rfl, 0, _, _, _, _, _, _, _, _, _, _, _, _, _, _, _, _, _, _, _, _, _, _, _, _, _, _, _, _, _, _, rfl, ?_, rfl, Nat.zero_le _, Nat.zero_le _, fun i hi => by omega⟩)
    have := Hm.out
    go_num
  · rintro a' w' ⟨rfl, k, q, r, u2, u3, u8, u9, u10, u11, u12, u13, u14, u15, u16, u17, u18, u19, u20, u21, u22, u23, u24, u25, u26, u27, u28, u29, u30, u31, u32, u33, rfl, rfl, rfl, hkm, hkn, hall⟩
    have hx := hr.len
    have Hx := hid hx
    have hb : Bs xs := fun x hx => bounds_u8 (hr.wf x hx)
    clear hx
    have Hall := hid hall
    clear hall
    by_cases e1 : k = m
    · subst e1
      go_wp2_with fail
      simp only [Exit.jump]
      go_ret2
      exact ⟨rfl, .inr (.inl ⟨⟨by rw [Hx.out]; exact hkn, Hall.out⟩, rfl⟩)⟩
    have d1 : ((k : Int) == (m : Int)) = false := by simp; omega
    by_cases e2 : k = n
    · subst e2
      go_wp2_with fail
      simp only [Exit.jump]
      go_ret2
      exact ⟨rfl, .inr (.inr ⟨⟨by rw [Hx.out]; omega, fun i hi => Hall.out i (by rw [Hx.out] at hi; exact hi)⟩, rfl⟩)⟩
    have d2 : ((k : Int) == (n : Int)) = false := by simp; omega
    obtain ⟨b, off, rfl, hc⟩ := hr.at (by omega)
    have hck := hc k (by omega)
    have hbk := hb.getD k
    obtain ⟨x, hxk⟩ : ∃ x, x = xs.getD k 0 := ⟨_, rfl⟩
    rw [← hxk] at hck hbk
    have Hxk := hid hxk
    have hmk := mark_of hbk.1 hbk.2
    clear hc hxk hr
    by_cases e3 : 128 ≤ x
    · rw [decide_eq_true (by omega)] at hmk
      go_wp2_with fail
      go_step3
      refine ⟨rfl, ⟨rfl, k + 1, _, _, _, _, _, _, _, _, _, _, _, _, _, _, _, _, _, _, _, _, _, _, _, _, _, _, _, _, _, _, rfl, rfl, by go_num, by omega, by omega, ?_⟩, ?_⟩
      · intro i hi
        by_cases e : i = k
        · rw [e, ← Hxk.out]; exact e3
        · exact Hall.out i (by omega)
      · simp [intOf]; omega
    · rw [decide_eq_false (by omega)] at hmk
      go_wp2_with fail
      simp only [Exit.jump]
      go_ret2
      exact ⟨rfl, .inl ⟨k, ⟨by rw [Hx.out]; omega, by omega, Hall.out, by rw [← Hxk.out]; omega⟩, rfl⟩⟩
end Go.Proofs.Ytnbegmlbkjjggaa
