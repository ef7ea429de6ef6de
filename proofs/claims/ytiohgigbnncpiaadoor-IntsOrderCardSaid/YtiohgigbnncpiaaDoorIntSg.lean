/- A value's number, out of whatever has its lowest bits. -/
import Derived.Test.YtiohgigbnncpiaaDoorIntTwo
namespace Go.Proofs.YtiohgigbnncpiaaDoor
open Go.RowKit

theorem sg_mod (c a b : Int) (h : (c = 1 → a % 4294967296 = b % 4294967296) ∧ (c ≠ 1 → a % 18446744073709551616 = b % 18446744073709551616)) : sg c a = sg c b := by
  unfold sg
  split
  · rename_i h1; have := h.1 h1; omega
  · rename_i h1; have := h.2 h1; omega
theorem sg_wrap64 (c z : Int) : sg c (wrap64 z) = sg c z := sg_mod _ _ _ (by unfold wrap64; omega)
theorem sg_u64 (c z : Int) : sg c (IntKind.u64.wrap z) = sg c z := sg_mod _ _ _ (by rw [IntKind.wrap_u64]; omega)
theorem un_mod (c n : Int) : (c = 1 → un c n % 4294967296 = n % 4294967296) ∧ (c ≠ 1 → un c n % 18446744073709551616 = n % 18446744073709551616) := by
  unfold un
  constructor
  · intro h; rw [if_pos h]; omega
  · intro h; rw [if_neg h]; omega
theorem sg_un (c n : Int) : sg c (un c n) = sg c n := sg_mod _ _ _ (un_mod c n)

theorem sg_mul (c a b a' b' : Int) (h : (c = 1 → a % 4294967296 = a' % 4294967296) ∧ (c ≠ 1 → a % 18446744073709551616 = a' % 18446744073709551616)) (h' : (c = 1 → b % 4294967296 = b' % 4294967296) ∧ (c ≠ 1 → b % 18446744073709551616 = b' % 18446744073709551616)) : sg c (a * b) = sg c (a' * b') := by
  refine sg_mod _ _ _ ⟨fun hc => ?_, fun hc => ?_⟩
  · rw [Int.mul_emod, h.1 hc, h'.1 hc, ← Int.mul_emod]
  · rw [Int.mul_emod, h.2 hc, h'.2 hc, ← Int.mul_emod]

def bitsN : BinOp → Nat → Nat → Nat
  | .and, a, b => a &&& b
  | .or, a, b => a ||| b
  | _, a, b => a ^^^ b
theorem bitsN_mod {op : BinOp} (ho : op = .and ∨ op = .or ∨ op = .xor) (a b i : Nat) : bitsN op a b % 2 ^ i = bitsN op (a % 2 ^ i) (b % 2 ^ i) := by
  rcases ho with rfl | rfl | rfl
  · exact Nat.and_mod_two_pow
  · exact Nat.or_mod_two_pow
  · exact Nat.xor_mod_two_pow
theorem ofInt64 (x : Int) : (BitVec.ofInt 64 x).toNat = (x % 18446744073709551616).toNat := by
  rw [BitVec.toNat_ofInt]
  rfl
theorem bits_nat {op : BinOp} (ho : op = .and ∨ op = .or ∨ op = .xor) (k : IntKind) (hk : k.bits = 64) (x y : Int) : bits op k x y = k.wrap ((bitsN op (x % 18446744073709551616).toNat (y % 18446744073709551616).toNat : Nat) : Int) := by
  unfold bits
  rcases ho with rfl | rfl | rfl
  · simp only [bitsN, BitVec.toNat_and]
    rw [BitVec.toNat_ofInt, BitVec.toNat_ofInt, hk]; rfl
  · simp only [bitsN, BitVec.toNat_or]
    rw [BitVec.toNat_ofInt, BitVec.toNat_ofInt, hk]; rfl
  · simp only [bitsN, BitVec.toNat_xor]
    rw [BitVec.toNat_ofInt, BitVec.toNat_ofInt, hk]; rfl

theorem sg_bits {op : BinOp} (ho : op = .and ∨ op = .or ∨ op = .xor) (c n m : Int) : sg c (bits op .u64 (un c n) (un c m)) = sg c (bits op .i64 n m) := by
  rw [bits_nat ho .u64 rfl, bits_nat ho .i64 rfl, sg_u64]
  have e : ∀ z : Int, IntKind.i64.wrap z = wrap64 z := fun z => by rw [IntKind.wrap_i64]; unfold wrap64; rfl
  rw [e, sg_wrap64]
  obtain ⟨a1, a2⟩ := un_mod c n
  obtain ⟨b1, b2⟩ := un_mod c m
  have n1 := un_in c n
  have m1 := un_in c m
  refine sg_mod _ _ _ ⟨fun hc => ?_, fun hc => ?_⟩
  · have h1 := a1 hc
    have h2 := b1 hc
    have q1 := bitsN_mod ho (un c n % 18446744073709551616).toNat (un c m % 18446744073709551616).toNat 32
    have q2 := bitsN_mod ho (n % 18446744073709551616).toNat (m % 18446744073709551616).toNat 32
    rw [show (2 : Nat) ^ 32 = 4294967296 from by decide] at q1 q2
    rw [show (un c n % 18446744073709551616).toNat % 4294967296 = (n % 18446744073709551616).toNat % 4294967296 by omega, show (un c m % 18446744073709551616).toNat % 4294967296 = (m % 18446744073709551616).toNat % 4294967296 by omega, ← q2] at q1
    omega
  · have h1 := a2 hc
    have h2 := b2 hc
    rw [h1, h2]

end Go.Proofs.YtiohgigbnncpiaaDoor
