import Derived.Test.YtnbegmlbkjjggaaLebDec
namespace Go.Proofs.Ytnbegmlbkjjggaa
open Go.RowKit

theorem Stop.one {xs : List Int} {m k k' : Nat} (h : Stop xs m k) (h' : Stop xs m k') : k = k' := by
  rcases Nat.lt_trichotomy k k' with g | g | g
  · have := h'.more k g; have := h.last; omega
  · exact g
  · have := h.more k' g; have := h'.last; omega
theorem last_stop (ao : Option Addr) (n cap : Nat) (xs : List Int) (bits : Int) (w : World) (hr : Rd .u8 w ao n cap xs) (h1 : 1 ≤ bits) (h2 : bits ≤ 64) (m k : Nat) (hm : (m : Int) = (bits + 6) / 7) (hs : Stop xs m k) :
    Calls Try.prog 66 #[.slice ao n cap, .int .i64 bits] w fun e w' => e = .returned (.tuple #[.int .i64 k, .int .i64 0]) ∧ w = w' := by
  refine (last_go ao n cap xs bits w hr h1 h2 m hm).mono ?_
  rintro e w' ⟨rfl, ⟨k', hk, rfl⟩ | ⟨⟨h, h'⟩, rfl⟩ | ⟨⟨h, h'⟩, rfl⟩⟩
  · rw [hs.one hk]; exact ⟨rfl, rfl⟩
  · have := h' k hs.most; have := hs.last; omega
  · have := h' k hs.lt; have := hs.last; omega
theorem last_form (ao : Option Addr) (n cap : Nat) (xs : List Int) (bits : Int) (w : World) (hr : Rd .u8 w ao n cap xs) (h1 : 1 ≤ bits) (h2 : bits ≤ 64) (m : Nat) (hm : (m : Int) = (bits + 6) / 7) (hs : m ≤ xs.length ∧ ∀ i, i < m → 128 ≤ xs.getD i 0) :
    Calls Try.prog 66 #[.slice ao n cap, .int .i64 bits] w fun e w' => e = .returned (.tuple #[.int .i64 0, .int .i64 1]) ∧ w = w' := by
  refine (last_go ao n cap xs bits w hr h1 h2 m hm).mono ?_
  rintro e w' ⟨rfl, ⟨k, hk, rfl⟩ | ⟨⟨h, h'⟩, rfl⟩ | ⟨⟨h, h'⟩, rfl⟩⟩
  · have := hs.2 k hk.most; have := hk.last; omega
  · exact ⟨rfl, rfl⟩
  · omega
theorem last_more (ao : Option Addr) (n cap : Nat) (xs : List Int) (bits : Int) (w : World) (hr : Rd .u8 w ao n cap xs) (h1 : 1 ≤ bits) (h2 : bits ≤ 64) (m : Nat) (hm : (m : Int) = (bits + 6) / 7) (hs : xs.length < m ∧ ∀ i, i < xs.length → 128 ≤ xs.getD i 0) :
    Calls Try.prog 66 #[.slice ao n cap, .int .i64 bits] w fun e w' => e = .returned (.tuple #[.int .i64 0, .int .i64 2]) ∧ w = w' := by
  refine (last_go ao n cap xs bits w hr h1 h2 m hm).mono ?_
  rintro e w' ⟨rfl, ⟨k, hk, rfl⟩ | ⟨⟨h, h'⟩, rfl⟩ | ⟨⟨h, h'⟩, rfl⟩⟩
  · have := hs.2 k hk.lt; have := hk.last; omega
  · omega
  · exact ⟨rfl, rfl⟩

theorem room_any (i bits : Int) (w : World) (h1 : 0 ≤ i) (h2 : i ≤ 9) (h3 : 0 ≤ bits) (h4 : bits ≤ 64) :
    Calls Try.prog 67 #[.int .i64 i, .int .i64 bits] w fun e w' => e = .returned (.int .i64 (bits - 7 * i)) ∧ w = w' := by
  go_enter Try.func67, Try.ntmps67
  go_wp2
  go_ret
  exact ⟨rfl, rfl⟩
theorem ext_wrap (x : Int) (h1 : 0 ≤ x) (h2 : x ≤ 255) : IntKind.i8.wrap (x * 2 % 256) / 2 = ext x :=
  byte_cases (p := fun x => IntKind.i8.wrap (x * 2 % 256) / 2 = ext x) (by decide +kernel) x h1 h2
theorem extend_any (x : Int) (w : World) (h1 : 0 ≤ x) (h2 : x ≤ 255) :
    Calls Try.prog 70 #[.int .u8 x] w fun e w' => e = .returned (.int .i8 (ext x)) ∧ w = w' := by
  have h := hid (ext_wrap x h1 h2)
  go_enter Try.func70, Try.ntmps70
  go_wp2
  go_ret
  exact ⟨by rw [← h.out]; rfl, rfl⟩

/-- What join does. -/
def joinI (n : Int) : List Int → Int
  | [] => n
  | x :: r => x % 128 + 128 * joinI n r
theorem joinI_val : ∀ (low : List Int) (t : Int), joinI t low = val low + 128 ^ low.length * t
  | [], t => by simp [joinI, val]
  | x :: r, t => by
    rw [joinI, joinI_val r t, val, List.length_cons, Int.pow_succ]
    generalize (128 : Int) ^ r.length = q
    rw [Int.mul_add, Int.mul_comm q 128, Int.mul_assoc]
    omega
theorem join_step (n x : Int) : bits BinOp.or IntKind.u64 (IntKind.u64.wrap (n * 128)) (IntKind.u64.wrap (bits BinOp.and IntKind.u8 x 127)) = (x % 128 + 128 * n) % 18446744073709551616 := by
  have e : (2 : Int) ^ 7 = 128 := by decide
  rw [and127_u8, IntWalk.u64_in (x % 128) (by omega), IntKind.wrap_u64]
  have h3 : (n * 128 % 18446744073709551616) % 2 ^ 7 = 0 := by rw [e]; omega
  have h4 : x % 128 < 2 ^ 7 := by rw [e]; omega
  have h5 : n * 128 % 18446744073709551616 < 2 ^ IntKind.u64.bits := by
    have : (2 : Int) ^ IntKind.u64.bits = 18446744073709551616 := by decide
    rw [this]; omega
  rw [bits_or_shift .u64 7 _ _ (by omega) (by omega) h4 h3 h5 (by decide) (IntWalk.u64_in _ (by omega))]
  omega

set_option maxHeartbeats 400000 in
theorem join_any (ao : Option Addr) (n cap : Nat) (xs : List Int) (t : Int) (w : World) (hr : Rd .u8 w ao n cap xs) (h0 : 0 ≤ t) (h1 : t ≤ 18446744073709551615) (hn : n ≤ 64) :
    Calls Try.prog 68 #[.int .u64 t, .slice ao n cap] w fun e w' => e = .returned (.int .u64 (joinI t xs % 18446744073709551616)) ∧ w = w' := by
  go_enter Try.func68, Try.ntmps68
  go_wp2_with fail
  refine wp_scope_loop 0 (fun a' w' => w' = w ∧ ∃ (k : Nat) (q r u2 u3 u6 u7 u8 u9 u10 u11 u12 u13 u14 u15 u16 u17 u18 u19 u20 u21 : Value),
      a' = { tmps := #[q, .slice ao n cap, u2, u3, .int .u64 0, r, u6, u7, u8, u9, u10, u11, u12, u13, u14, u15, u16, u17, u18, u19, u20, u21], defers := [] } ∧
      r = .int .i64 k ∧ q = .int .u64 (joinI t (xs.drop k) % 18446744073709551616) ∧ k ≤ n)
    (fun a' _ => (intOf (a'.tmps.getD 5 undef)).toNat) rfl ?_ ?_
  · intro Q' hQ'
    go_wp2_with fail
    go_step3
    rename_i K hK
    refine hK _ _ (hQ' _ _ ⟨rfl, n, _, _, _, _, _, _, _, _, _, _, _, _, _, _, _, _, _, _, _, _, rfl, rfl, ?_, Nat.le_refl _⟩)
    rw [← hr.len, List.drop_length, joinI]
    go_num
  · rintro a' w' ⟨rfl, k, q, r, u2, u3, u6, u7, u8, u9, u10, u11, u12, u13, u14, u15, u16, u17, u18, u19, u20, u21, rfl, rfl, rfl, hkn⟩
    obtain ⟨j, hj⟩ : ∃ j, j = joinI t (xs.drop k) % 18446744073709551616 := ⟨_, rfl⟩
    have hj0 : 0 ≤ j := by omega
    have hj1 : j ≤ 18446744073709551615 := by omega
    rw [← hj]
    have Hj := hid hj
    have hl := hr.len
    have Hl := hid hl
    have hw : ∀ x ∈ xs, 0 ≤ x ∧ x ≤ 255 := fun x hx => bounds_u8 (hr.wf x hx)
    clear hj hl
    cases k with
    | zero =>
      go_wp2_with fail
      simp only [Exit.jump]
      go_ret
      refine ⟨?_, rfl⟩
      rw [Hj.out]; rfl
    | succ k =>
      obtain ⟨b, off, rfl, hc⟩ := hr.at (by omega)
      have hck := hc k (by omega)
      obtain ⟨x, hxk⟩ : ∃ x, x = xs.getD k 0 := ⟨_, rfl⟩
      have hbk := Bs.getD (xs := xs) hw k
      rw [← hxk] at hck hbk
      have Hxk := hid hxk
      have Hw := hid hw
      clear hc hxk hr hw
      go_wp2_with fail
      go_step3
      refine ⟨rfl, ⟨rfl, k, _, _, _, _, _, _, _, _, _, _, _, _, _, _, _, _, _, _, _, _, rfl, rfl, ?_, by omega⟩, ?_⟩
      · rw [join_step j x, Hj.out]
        have hk : k < xs.length := by rw [Hl.out]; omega
        have e : xs.drop k = x :: xs.drop (k + 1) := by
          rw [List.drop_eq_getElem_cons hk]
          congr 1
          rw [Hxk.out]
          simp [List.getD, hk]
        rw [e, joinI]
        go_num
      · simp [intOf]
end Go.Proofs.Ytnbegmlbkjjggaa
