/- CrcMath, Crc, CrcLaid: one text. -/
import Derived.Laws.BitsAllLaws
import Derived.Test.YtpfcopdckjedfaaDoorBase
import Derived.Test.YtpfcopdckjedfaaDoorProg
import Derived.Test.YtpfcopdckjedfaaDoorShort
import Derived.Test.YtpfcopdckjedfaaDoorRows
import Derived.LaidMore
import Derived.OpenShut
import Derived.Stop.Joined
/- The division of bit strings by the reversed polynomial: plain numbers. No program is named here. -/
namespace Go.Proofs.YtpfcopdckjedfaaDoor

def stp (n : Nat) : Nat := if n % 2 = 1 then n / 2 ^^^ 3988292384 else n / 2
def its : Nat → Nat → Nat
  | 0, n => n
  | k + 1, n => its k (stp n)
theorem xor_mod2 (a b : Nat) : (a ^^^ b) % 2 = (a % 2 + b % 2) % 2 := by
  have h := Nat.xor_mod_two_pow (a := a) (b := b) (n := 1)
  simp only [Nat.pow_one] at h
  rw [h]
  rcases Nat.mod_two_eq_zero_or_one a with h1 | h1 <;> rcases Nat.mod_two_eq_zero_or_one b with h2 | h2 <;> rw [h1, h2] <;> decide
theorem xor_half (a b : Nat) : (a ^^^ b) / 2 = a / 2 ^^^ b / 2 := by
  have := Nat.xor_div_two_pow (a := a) (b := b) (n := 1)
  simpa using this
theorem stp_xor (a b : Nat) : stp (a ^^^ b) = stp a ^^^ stp b := by
  unfold stp
  rw [xor_mod2, xor_half]
  rcases Nat.mod_two_eq_zero_or_one a with h1 | h1 <;> rcases Nat.mod_two_eq_zero_or_one b with h2 | h2 <;> rw [h1, h2] <;> simp
  · rw [Nat.xor_assoc]
  · rw [Nat.xor_assoc, Nat.xor_assoc, Nat.xor_comm 3988292384 (b / 2)]
  · rw [Nat.xor_assoc, Nat.xor_comm 3988292384, Nat.xor_assoc, Nat.xor_self, Nat.xor_zero]
theorem its_xor : ∀ (k a b : Nat), its k (a ^^^ b) = its k a ^^^ its k b
  | 0, _, _ => rfl
  | k + 1, a, b => by rw [its, its, its, stp_xor, its_xor k]
theorem its_add : ∀ (j k n : Nat), its (j + k) n = its k (its j n)
  | 0, k, n => by rw [Nat.zero_add]; rfl
  | j + 1, k, n => by rw [show j + 1 + k = (j + k) + 1 from by omega, its, its_add j k, its]
theorem stp_zero : stp 0 = 0 := by decide
theorem its_zero : ∀ k, its k 0 = 0
  | 0 => rfl
  | k + 1 => by rw [its, stp_zero, its_zero k]
theorem xor_lt32 {a b : Nat} (ha : a < 4294967296) (hb : b < 4294967296) : a ^^^ b < 4294967296 := Nat.xor_lt_two_pow (n := 32) ha hb
theorem stp_lt {n : Nat} (h : n < 4294967296) : stp n < 4294967296 := by
  unfold stp
  split
  · exact xor_lt32 (by omega) (by decide)
  · omega
theorem its_lt : ∀ (k : Nat) {n : Nat}, n < 4294967296 → its k n < 4294967296
  | 0, _, h => h
  | k + 1, _, h => its_lt k (stp_lt h)
/-- The step goes back: its highest bit tells which way it went. -/
theorem stp_hi {n : Nat} (h : n < 4294967296) : stp n / 2147483648 = n % 2 := by
  unfold stp
  split
  · rename_i h1
    have e := Nat.xor_div_two_pow (a := n / 2) (b := 3988292384) (n := 31)
    rw [show (2 : Nat) ^ 31 = 2147483648 from by decide] at e
    rw [e, show n / 2 / 2147483648 = 0 from by omega, h1]
    decide
  · omega
theorem xor_cancel {a b c : Nat} (h : a ^^^ c = b ^^^ c) : a = b := by
  have := congrArg (· ^^^ c) h
  simpa [Nat.xor_assoc] using this
theorem stp_inj {a b : Nat} (ha : a < 4294967296) (hb : b < 4294967296) (h : stp a = stp b) : a = b := by
  have h1 := stp_hi ha
  have h2 := stp_hi hb
  rw [h, h2] at h1
  unfold stp at h
  rw [h1] at h
  split at h
  · have := xor_cancel h
    omega
  · omega
theorem its_inj : ∀ (k : Nat) {a b : Nat}, a < 4294967296 → b < 4294967296 → its k a = its k b → a = b
  | 0, _, _, _, _, h => h
  | k + 1, _, _, ha, hb, h => stp_inj ha hb (its_inj k (stp_lt ha) (stp_lt hb) h)
theorem its_shift : ∀ (k n : Nat), its k (n * 2 ^ k) = n
  | 0, n => by simp [its]
  | k + 1, n => by
    have h1 : stp (n * 2 ^ (k + 1)) = n * 2 ^ k := by
      unfold stp
      rw [Nat.pow_succ, ← Nat.mul_assoc, Nat.mul_mod_left, if_neg (by decide), Nat.mul_div_cancel _ (by decide)]
    rw [its, h1, its_shift k]
/-- A whole number is its high part and its low part. -/
theorem split_xor (k n : Nat) : n = n / 2 ^ k * 2 ^ k ^^^ n % 2 ^ k := by
  refine Nat.eq_of_testBit_eq fun i => ?_
  rw [Nat.testBit_xor, Nat.testBit_mod_two_pow, ← Nat.shiftLeft_eq, Nat.testBit_shiftLeft, ← Nat.shiftRight_eq_div_pow, Nat.testBit_shiftRight]
  by_cases h : k ≤ i
  · have h1 : ¬ i < k := by omega
    simp [h, h1]
  · have h1 : i < k := by omega
    simp [h, h1]
theorem its_split (k n : Nat) : its k n = n / 2 ^ k ^^^ its k (n % 2 ^ k) := by
  conv => lhs; rw [split_xor k n]
  rw [its_xor, its_shift]

/-- The state behind the bytes xs, from the state c. -/
def run (c : Nat) (xs : List Int) : Nat := xs.foldl (fun c x => its 8 (c ^^^ x.toNat)) c
theorem run_append (c : Nat) (xs ys : List Int) : run c (xs ++ ys) = run (run c xs) ys := by simp [run]
theorem run_snoc (c : Nat) (xs : List Int) (x : Int) : run c (xs ++ [x]) = its 8 (run c xs ^^^ x.toNat) := by simp [run]
theorem run_lt : ∀ (xs : List Int) {c : Nat}, (∀ x ∈ xs, 0 ≤ x ∧ x ≤ 255) → c < 4294967296 → run c xs < 4294967296
  | [], _, _, h => h
  | x :: r, c, hx, h => by
    have := hx x (by simp)
    exact run_lt r (fun y hy => hx y (by simp [hy])) (its_lt 8 (xor_lt32 h (by omega)))
/-- The sum. -/
def crcOf (s : Nat) (xs : List Int) : Nat := 4294967295 - run (4294967295 - s) xs
theorem crc_lt (s : Nat) (xs : List Int) : crcOf s xs < 4294967296 := by unfold crcOf; omega
theorem crc_more (s : Nat) (xs ys : List Int) (h : ∀ x ∈ xs, 0 ≤ x ∧ x ≤ 255) : crcOf (crcOf s xs) ys = crcOf s (xs ++ ys) := by
  unfold crcOf
  have := run_lt xs h (show 4294967295 - s < 4294967296 by omega)
  rw [run_append, show 4294967295 - (4294967295 - run (4294967295 - s) xs) = run (4294967295 - s) xs from by omega]

theorem take_next (xs : List Int) {k : Nat} (h : k < xs.length) : xs.take (k + 1) = xs.take k ++ [xs.getD k 0] := by
  rw [List.take_succ_eq_append_getElem h]
  simp [List.getD, h]
/-- The exclusive or of three, byte by byte. -/
def x3 (xs ys zs : List Int) (i : Nat) : Nat := (xs.getD i 0).toNat ^^^ (ys.getD i 0).toNat ^^^ (zs.getD i 0).toNat
def all3 (xs ys zs : List Int) (k : Nat) : List Int := (List.range k).map fun i => ((x3 xs ys zs i : Nat) : Int)
theorem run_three (c : Nat) (xs ys zs : List Int) : ∀ k, k ≤ xs.length → k ≤ ys.length → k ≤ zs.length → run c (all3 xs ys zs k) = run c (xs.take k) ^^^ run c (ys.take k) ^^^ run c (zs.take k)
  | 0, _, _, _ => by simp [all3, run]
  | k + 1, h1, h2, h3 => by
    rw [take_next xs (by omega), take_next ys (by omega), take_next zs (by omega), run_snoc, run_snoc, run_snoc]
    have e : all3 xs ys zs (k + 1) = all3 xs ys zs k ++ [((x3 xs ys zs k : Nat) : Int)] := by simp [all3, List.range_succ]
    rw [e, run_snoc, run_three c xs ys zs k (by omega) (by omega) (by omega), Int.toNat_natCast, x3, ← its_xor, ← its_xor]
    congr 1
    ac_rfl
theorem flip32 {n : Nat} (h : n < 4294967296) : 4294967295 - n = 4294967295 ^^^ n := by
  refine Nat.eq_of_testBit_eq fun i => ?_
  rw [Nat.testBit_xor, show 4294967295 - n = 2 ^ 32 - (n + 1) from by omega, Nat.testBit_two_pow_sub_succ h, show (4294967295 : Nat) = 2 ^ 32 - 1 from by decide, Nat.testBit_two_pow_sub_one]
  by_cases h' : i < 32
  · simp [h']
  · simp [h', Nat.testBit_lt_two_pow (Nat.lt_of_lt_of_le h (Nat.pow_le_pow_right (by decide : 0 < 2) (by omega : 32 ≤ i)))]
theorem crc_three (xs ys zs : List Int) (hx : ∀ x ∈ xs, 0 ≤ x ∧ x ≤ 255) (hy : ∀ x ∈ ys, 0 ≤ x ∧ x ≤ 255) (hz : ∀ x ∈ zs, 0 ≤ x ∧ x ≤ 255) (k : Nat) (h1 : k ≤ xs.length) (h2 : k ≤ ys.length) (h3 : k ≤ zs.length) :
    crcOf 0 (all3 xs ys zs k) = crcOf 0 (xs.take k) ^^^ crcOf 0 (ys.take k) ^^^ crcOf 0 (zs.take k) := by
  have b1 := run_lt (c := 4294967295) (xs.take k) (fun x h => hx x (List.mem_of_mem_take h)) (by decide)
  have b2 := run_lt (c := 4294967295) (ys.take k) (fun x h => hy x (List.mem_of_mem_take h)) (by decide)
  have b3 := run_lt (c := 4294967295) (zs.take k) (fun x h => hz x (List.mem_of_mem_take h)) (by decide)
  unfold crcOf
  rw [Nat.sub_zero, run_three _ xs ys zs k h1 h2 h3, flip32 b1, flip32 b2, flip32 b3, flip32 (xor_lt32 (xor_lt32 b1 b2) b3)]
  generalize run 4294967295 (xs.take k) = p
  generalize run 4294967295 (ys.take k) = q
  generalize run 4294967295 (zs.take k) = r
  rw [show 4294967295 ^^^ p ^^^ (4294967295 ^^^ q) ^^^ (4294967295 ^^^ r) = (4294967295 ^^^ 4294967295) ^^^ (4294967295 ^^^ (p ^^^ q ^^^ r)) from by ac_rfl, Nat.xor_self, Nat.zero_xor]

/-- The table. -/
def tab : Nat → Nat
  | 0 => 0 | 1 => 498536548 | 2 => 997073096 | 3 => 651767980 | 4 => 1994146192 | 5 => 1802195444 | 6 => 1303535960 | 7 => 1342533948
  | 8 => 3988292384 | 9 => 4027552580 | 10 => 3604390888 | 11 => 3412177804 | 12 => 2607071920 | 13 => 2262029012 | 14 => 2685067896 | _ => 3183342108
theorem tab_lt (i : Nat) : tab i < 4294967296 := by unfold tab; split <;> decide
theorem tab_is : ∀ i : Fin 16, its 4 i.val = tab i.val := by decide +kernel
theorem nib (c : Nat) : c / 16 ^^^ tab (c % 16) = its 4 c := by
  have h := its_split 4 c
  rw [show (2 : Nat) ^ 4 = 16 from by decide] at h
  rw [h, tab_is ⟨c % 16, Nat.mod_lt _ (by decide)⟩]
end Go.Proofs.YtpfcopdckjedfaaDoor

namespace Go.Proofs.YtpfcopdckjedfaaDoor
open Go.RowKit

/-- The table, as it stands in memory. -/
def Laid (w : World) : Prop := ∀ i : Nat, i < 16 → w.cell? ⟨0, i, none⟩ = some (.int .u32 (tab i : Nat))
theorem Laid.below {w w' : World} (h : Laid w) (hb : Below w.heap.size w w') : Laid w' := fun i hi => by
  have hc := h i hi
  exact (hb.cell (World.block_lt_of_cell? w _ hc)).trans hc

theorem not32 (s : Nat) (hs : s < 4294967296) : bits BinOp.xor IntKind.u32 IntKind.u32.max (s : Int) = ((4294967295 - s : Nat) : Int) := by
  rw [show IntKind.u32.max = ((4294967295 : Nat) : Int) from by decide, u32_xor_nat _ _ (by decide) hs]
  rw [flip32 hs]
theorem half16 (c : Nat) : ((c / 16 : Nat) : Int) = (c : Int) / 16 := by simp
theorem xor32 (a b : Nat) (ha : a < 4294967296) (hb : b < 4294967296) : bits BinOp.xor IntKind.u32 (a : Int) (b : Int) = ((a ^^^ b : Nat) : Int) := u32_xor_nat a b ha hb
theorem and15 (a : Nat) (ha : a < 4294967296) : bits BinOp.and IntKind.u32 (a : Int) 15 = ((a % 16 : Nat) : Int) := by
  rw [show (15 : Int) = ((15 : Nat) : Int) from rfl, u32_and_nat a 15 ha (by decide), nat_mask4]

set_option maxHeartbeats 400000 in
theorem more_any (s : Nat) (ao : Option Addr) (n cap : Nat) (xs : List Int) (w : World) (hr : Rd .u8 w ao n cap xs) (hL : Laid w) (hs : s < 4294967296) :
    Calls Tryd.prog 54 #[.int .u32 (s : Nat), .slice ao n cap] w fun e w' => e = .returned (.int .u32 (crcOf s xs : Nat)) ∧ w = w' := by
  have hc63 := hr.cap63
  have hle := hr.le
  have Hr := hid hr
  have HL := hid hL
  obtain ⟨c0, hc0⟩ : ∃ c0 : Nat, c0 = 4294967295 - s := ⟨_, rfl⟩
  have e0 := not32 s hs
  rw [← hc0] at e0
  have Hc0 := hid hc0
  have hc0b : c0 < 4294967296 := by omega
  clear hr hL hc0
  go_enter Tryd.func54, Tryd.ntmps54
  go_wp2
  go_loop [5, 12] (fun c i => ∃ k c' : Nat, k ≤ n ∧ i = .int .i64 k ∧ c = .int .u32 c' ∧ c' < 4294967296 ∧ Hid (c' = run c0 (xs.take k))) (fun _ i => n - (intOf i).toNat)
  case atStart => exact ⟨0, c0, Nat.zero_le _, rfl, rfl, hc0b, by simp [run, Hid]⟩
  case round =>
    obtain ⟨k, c, hk, rfl, rfl, hcb, Hc⟩ := hrel
    by_cases hlt : k < n
    · obtain ⟨b, off, rfl, hcell⟩ := Hr.out.at (by omega)
      have hck := hcell k hlt
      have hbd := bounds_u8 (Hr.out.wf (xs.getD k 0) (by
        have : k < xs.length := by rw [Hr.out.len]; exact hlt
        simp [List.getD, this]))
      obtain ⟨x, hx⟩ : ∃ x : Nat, xs.getD k 0 = (x : Int) := ⟨(xs.getD k 0).toNat, by omega⟩
      rw [hx] at hck hbd
      have hx8 : x ≤ 255 := by omega
      obtain ⟨c1, hc1⟩ : ∃ c1, c1 = c ^^^ x := ⟨_, rfl⟩
      obtain ⟨c2, hc2⟩ : ∃ c2, c2 = its 4 c1 := ⟨_, rfl⟩
      have hc1b : c1 < 4294967296 := by rw [hc1]; exact xor_lt32 hcb (by omega)
      have hc2b : c2 < 4294967296 := by rw [hc2]; exact its_lt 4 hc1b
      have x1 := xor32 c x hcb (by omega)
      rw [← hc1] at x1
      obtain ⟨i1, hi1⟩ : ∃ i, i = c1 % 16 := ⟨_, rfl⟩
      obtain ⟨i2, hi2⟩ : ∃ i, i = c2 % 16 := ⟨_, rfl⟩
      have a1 := and15 c1 hc1b
      have a2 := and15 c2 hc2b
      rw [← hi1] at a1
      rw [← hi2] at a2
      have l1 := HL.out i1 (by omega)
      have l2 := HL.out i2 (by omega)
      have x2 := xor32 (c1 / 16) (tab i1) (by omega) (tab_lt _)
      have x3 := xor32 (c2 / 16) (tab i2) (by omega) (tab_lt _)
      rw [hi1, nib, ← hc2, ← hi1, half16] at x2
      rw [hi2, nib, ← hi2, half16] at x3
      have hi1b : i1 < 16 := by omega
      have hi2b : i2 < 16 := by omega
      have Hrest := hid (show its 4 c2 = run c0 (xs.take (k + 1)) by
        have hxs : xs.take (k + 1) = xs.take k ++ [(x : Int)] := by
          have hkl : k < xs.length := by rw [Hr.out.len]; exact hlt
          rw [List.take_succ_eq_append_getElem hkl, ← hx]
          simp [List.getD, hkl]
        rw [hxs, run_snoc, ← Hc.out, hc2, hc1, ← its_add]
        rfl)
      clear hi1 hi2 hc1 hc2 hx hcell
      go_wp2
      go_round
      case rel => exact ⟨k + 1, _, by omega, by go_num, rfl, its_lt 4 hc2b, Hrest.out⟩
      case measure => simp [intOf]; omega
    · have hkn : k = n := by omega
      subst hkn
      have e1 := not32 c hcb
      have Hlen := hid Hr.out.len
      clear hlt
      go_wp2
      go_ret
      refine ⟨?_, rfl⟩
      unfold crcOf
      rw [Hc.out, Hc0.out, List.take_of_length_le (by rw [Hlen.out]; exact Nat.le_refl _)]
      rfl

theorem sum_any (ao : Option Addr) (n cap : Nat) (xs : List Int) (w : World) (hr : Rd .u8 w ao n cap xs) (hL : Laid w) :
    Calls Tryd.prog 44 #[.slice ao n cap] w fun e w' => e = .returned (.int .u32 (crcOf 0 xs : Nat)) ∧ w = w' := by
  go_enter Tryd.func44, Tryd.ntmps44
  go_wp2_with (go_at_call 54; refine (more_any 0 ao n cap xs w hr hL (by decide)).mono ?_; rintro e w' ⟨rfl, rfl⟩)
  go_ret
  exact ⟨rfl, rfl⟩

end Go.Proofs.YtpfcopdckjedfaaDoor

namespace Go.Proofs.YtpfcopdckjedfaaDoor
open Go.RowKit Go.ChangeShapes Go.WideShapes

abbrev laids (H : Type) : List (String × DataW H) := [("diapause/crc.remainders", Rows.laid_diapause_crc_remainders)]
theorem gRem : Tryd.prog.globalNamed "diapause/crc.remainders" = some 0 := by kernel_rfl
theorem tRem : (Tryd.prog.globals[0]?).map (·.type) = some 112 := by kernel_rfl

theorem door_met (os : Os) (args : Array Value) : laidMetH Tryd.prog (laids _) ((World.doorLaid Tryd.prog 400 os).forCall (fun _ _ => 0) ⟨#[], args, []⟩).memory :=
  laidMetH_of_parts3 (fuel := 8) (laidMet_of_run' 8 (by kernel_rfl) (by kernel_rfl)) (by kernel_rfl) (by kernel_rfl)

set_option maxRecDepth 100000 in
theorem Laid.of_met {W : World} (h : laidMetH Tryd.prog (laids _) W) : Laid W := by
  rw [MakeChecks.laidMetH_plain _ _ _ (by kernel_rfl)] at h
  obtain ⟨ps, ⟨g0, t0, cs0, f0, p0, q0, hg0, ht0, hv0, hd0, _, _⟩, _⟩ := h
  obtain rfl := Option.some.inj (gRem.symm.trans hg0)
  obtain rfl := Option.some.inj (tRem.symm.trans ht0)
  obtain ⟨xs, m1, rfl, hx1, hlen, hn3, hel⟩ := DataW.trod_array Tryd.underlying112 hd0
  have c3 : Tryd.prog.cellsOf 78 = 1 := by kernel_rfl
  have hxs : xs.map (fun x => x.1) = (List.range 16).map fun i => DataW.lit (.int .u32 (tab i : Nat)) := by
    have h1 := congrArg Prod.fst hx1
    injection h1 with h2
    rw [← h2]
    rfl
  rw [c3] at hel
  intro i hi
  rw [World.var?_cell gRem hv0 i]
  have h1 := hel i hi
  have hlt : i < xs.length := by omega
  rw [List.getElem?_eq_getElem hlt, Nat.mul_one] at h1
  obtain ⟨k, e1, e2, _⟩ := DataW.trod_int Tryd.underlying78 h1
  have h3 : (xs.map (fun x => x.1))[i]? = some (DataW.lit (.int .u32 k)) := by simp [hlt, e2]
  rw [hxs] at h3
  simp [hi] at h3
  obtain ⟨l⟩ := cs0
  have h4 : l[i]? = some (.int .u32 k) := by
    have : (List.drop i l)[0]? = some (.int .u32 k) := by
      cases hd : List.drop i l with
      | nil => simp [hd] at e1
      | cons c r => simp [hd] at e1; simp [e1]
    simpa using this
  rw [h3]
  simpa using h4
end Go.Proofs.YtpfcopdckjedfaaDoor
