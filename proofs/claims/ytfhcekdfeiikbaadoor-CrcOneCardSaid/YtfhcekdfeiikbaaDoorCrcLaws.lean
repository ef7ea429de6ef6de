import Derived.Test.YtfhcekdfeiikbaaDoorCrc
import Derived.Lib.SlBytesConst
namespace Go.Proofs.YtfhcekdfeiikbaaDoor
open Go.RowKit

def digits : List Int := [49, 50, 51, 52, 53, 54, 55, 56, 57]
theorem crc_digits : crcOf 0 digits = 3421780262 := by decide +kernel
theorem sum_digits (w : World) (hL : Laid w) (n : Nat) (hn : n = w.heap.size) :
    Calls Tryd.prog 10 #[.slice (some ⟨n, 0, none⟩) 9 9] (w.alloc (.cells #[.int .u8 49, .int .u8 50, .int .u8 51, .int .u8 52, .int .u8 53, .int .u8 54, .int .u8 55, .int .u8 56, .int .u8 57] 5 (9, 10))) fun e w' => e = .returned (.int .u32 3421780262) ∧ w.alloc (.cells #[.int .u8 49, .int .u8 50, .int .u8 51, .int .u8 52, .int .u8 53, .int .u8 54, .int .u8 55, .int .u8 56, .int .u8 57] 5 (9, 10)) = w' := by
  subst hn
  have := sum_any _ 9 9 digits _ (Rd.builtAll w .u8 5 (9, 10) digits (by decide) (by decide)) (hL.below ((Below.refl _ _).alloc (Nat.le_refl _) _))
  rw [crc_digits] at this
  exact this
theorem sum_nil (w : World) (hL : Laid w) : Calls Tryd.prog 10 #[.slice none 0 0] w fun e w' => e = .returned (.int .u32 0) ∧ w = w' := by
  have := sum_any none 0 0 [] w (Rd.empty w .u8) hL
  exact this
set_option maxHeartbeats 400000 in
theorem begun_any (w : World) (hL : Laid w) : Calls Tryd.prog 8 #[] w fun e w' => e = .returned (.bool true) ∧ Below w.heap.size w w' := by
  have kc := fun (w : World) (C : Array Value) (n c : Nat) => Lib.run_convert_bytes_const (P := Tryd.prog) w 22 5 C n c Tryd.underlying22 Tryd.underlying5
  go_enter Tryd.func8, Tryd.ntmps8
  go_wp2_with fail
  refine (sum_digits w hL _ rfl).mono ?_
  rintro e w' ⟨rfl, rfl⟩
  go_wp2_with fail
  refine (sum_nil _ (hL.below ((Below.refl _ _).alloc (Nat.le_refl _) _))).mono ?_
  rintro e w' ⟨rfl, rfl⟩
  go_wp2_with fail
  go_ret
  exact ⟨rfl, (Below.refl _ _).alloc (Nat.le_refl _) _⟩

theorem infoU8 : (Tryd.prog.info? 5).map (fun i => (i.zero, i.size, i.bytes)) = some (some (.int .u8 0), 1, 1) := by kernel_rfl

theorem Rd.bytes {w : World} {ao : Option Addr} {n cap : Nat} {xs : List Int} (h : Rd .u8 w ao n cap xs) : ∀ x ∈ xs, 0 ≤ x ∧ x ≤ 255 := fun x hx => bounds_u8 (h.wf x hx)

set_option maxRecDepth 100000 in
set_option maxHeartbeats 800000 in
theorem crcAll_walk (pa pb : Option Addr) (n0 c0 n1 c1 : Nat) (xs ys : List Int) (w : World) (h0 : Rd .u8 w pa n0 c0 xs) (h1 : Rd .u8 w pb n1 c1 ys) (hL : Laid w) :
    Calls Tryd.prog 3 #[.slice pa n0 c0, .slice pb n1 c1] w fun e w' => e = .returned (.bool true) ∧ Below w.heap.size w w' := by
  have s0 := h0.short 300
  have s1 := h1.short 300
  have l0 := h0.le
  have l1 := h1.le
  have m0 := h0.cap63
  have m1 := h1.cap63
  obtain ⟨x, hx⟩ : ∃ x, x = xs.take (min n0 300) := ⟨_, rfl⟩
  obtain ⟨y, hy⟩ : ∃ y, y = ys.take (min n1 300) := ⟨_, rfl⟩
  rw [← hx] at s0
  rw [← hy] at s1
  obtain ⟨p, hp⟩ : ∃ p, p = min n0 300 := ⟨_, rfl⟩
  obtain ⟨q, hq⟩ : ∃ q, q = min n1 300 := ⟨_, rfl⟩
  have HS0 := hid (short_any pa n0 c0 300 · l0 m0 (by omega))
  have HS1 := hid (short_any pb n1 c1 300 · l1 m1 (by omega))
  rw [← hp] at s0 HS0
  rw [← hq] at s1 HS1
  have hp3 : p ≤ 300 := by omega
  have hq3 : q ≤ 300 := by omega
  clear hx hy hp hq h0 h1
  have X := hid s0.bytes
  have hlx := s0.len
  have hly := s1.len
  have Hlx := hid hlx
  have Hly := hid hly
  have hlx3 : x.length ≤ 300 := by omega
  have hly3 : y.length ≤ 300 := by omega
  clear hlx hly
  go_enter Tryd.func3, Tryd.ntmps3
  go_wp2_with fail
  refine (begun_any w hL).mono ?_
  rintro e w1 ⟨rfl, b1⟩
  go_wp2_with fail
  refine (HS0.out w1).mono ?_
  rintro e w' ⟨rfl, rfl⟩
  go_wp2_with fail
  refine (HS1.out w1).mono ?_
  rintro e w' ⟨rfl, rfl⟩
  go_wp2_with (first
    | (at_builtin; refine wpList_append_rd rfl (.const (.slice none 0 0)) _ 22 rfl 5 .u8 w1.heap.size 1 Tryd.underlying22 infoU8 _ [] rfl (Own.nil _ _ _ _) pa p c0 x rfl (s0.below b1) (by simp; omega) (by simp; omega) (Nat.le_refl _) ?_; intro v2 w2 o2 b2 _)
    | (at_builtin; refine wpList_append_rd rfl (.tmp _) _ 22 rfl 5 .u8 w1.heap.size 1 Tryd.underlying22 infoU8 _ _ rfl o2 pb q c1 y rfl ((s1.below b1).below (b2.mono (Nat.le_refl _))) (by simp; omega) (by simp; omega) b2.size ?_; intro v3 w3 o3 b3 _)
    | fail)
  rw [List.nil_append] at o3
  obtain ⟨z, hz⟩ : ∃ z, z = x ++ y := ⟨_, rfl⟩
  rw [← hz] at o3
  obtain ⟨pc, c3, rfl, r3⟩ := o3.rd
  obtain ⟨n3, hn3⟩ : ∃ n3, n3 = z.length := ⟨_, rfl⟩
  rw [← hn3] at r3 ⊢
  have Hz := hid hz
  clear hn3 hz o3
  have B3 : Below w.heap.size w w3 := b1.trans ((b2.trans b3).mono b1.size)
  have L3 := hL.below B3
  go_wp2_with fail
  refine (sum_any _ _ _ _ w3 r3 L3).mono ?_
  rintro e w' ⟨rfl, rfl⟩
  go_wp2_with fail
  refine (refSum_any _ _ _ _ w3 r3).mono ?_
  rintro e w' ⟨rfl, rfl⟩
  go_wp2_with fail
  refine (sum_any _ _ _ _ w3 (s0.below B3) L3).mono ?_
  rintro e w' ⟨rfl, rfl⟩
  go_wp2_with fail
  refine (more_any _ _ _ _ _ w3 (s1.below B3) L3 (crc_lt _ _)).mono ?_
  rintro e w' ⟨rfl, rfl⟩
  rw [crc_more _ _ _ X.out, ← Hz.out]
  go_wp2_with fail
  refine (sum_any _ _ _ _ w3 r3 L3).mono ?_
  rintro e w' ⟨rfl, rfl⟩
  go_wp2_with fail
  go_ret
  exact ⟨by simp, B3⟩
end Go.Proofs.YtfhcekdfeiikbaaDoor
