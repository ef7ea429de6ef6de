/- Instructions as bytes: what may be one, its bytes, what bytes begin with. Plain mathematics; no program is named here. -/
import Derived.Test.YtfambbpggodlkaaLebMath
namespace Go.Proofs.Ytfambbpggodlkaa
open Go.RowKit

/-- Is it a numeric instruction's byte? -/
def numI (op : Int) : Bool := decide (69 ≤ op ∧ op ≤ 90) || decide (103 ≤ op ∧ op ≤ 138) || op == 167 || op == 172 || op == 173

/-- What stands behind an instruction's byte; 0: it is none. -/
def sh (op : Int) : Int :=
  if op = 0 ∨ op = 1 ∨ op = 5 ∨ op = 11 ∨ op = 15 ∨ op = 26 ∨ op = 27 then 1
  else if op = 2 ∨ op = 3 ∨ op = 4 then 2
  else if op = 12 ∨ op = 13 ∨ op = 16 ∨ op = 32 ∨ op = 33 ∨ op = 34 ∨ op = 35 ∨ op = 36 then 3
  else if op = 14 then 4
  else if op = 17 then 5
  else if op = 40 ∨ op = 41 ∨ op = 44 ∨ op = 45 ∨ op = 54 ∨ op = 55 ∨ op = 58 then 6
  else if op = 63 ∨ op = 64 then 7
  else if op = 65 then 8
  else if op = 66 then 9
  else if numI op = true then 1 else 0

theorem sh_bounds (op : Int) : 0 ≤ sh op ∧ sh op ≤ 9 := by unfold sh; (repeat' split) <;> omega
theorem sh_byte {op : Int} (h : sh op ≠ 0) : 0 ≤ op ∧ op ≤ 255 := by
  by_cases h0 : 0 ≤ op ∧ op ≤ 255
  · exact h0
  · exfalso
    apply h
    unfold sh
    have hn : ¬ numI op = true := by simp [numI]; omega
    repeat rw [if_neg (by omega)]
    try rw [if_neg hn]

/-- May a be the first number of an instruction of this form; b the second one; l its list? -/
def mayAS (s a : Int) : Bool :=
  if s = 1 ∨ s = 7 then a == 0
  else if s = 2 then a == 0 || (a == 1 || a == 2)
  else if s = 3 ∨ s = 4 ∨ s = 5 then decide (0 ≤ a) && decide (a ≤ 1000)
  else if s = 6 then decide (0 ≤ a) && decide (a ≤ 3)
  else if s = 8 then decide (-2147483648 ≤ a) && decide (a ≤ 2147483647)
  else s == 9
def mayBS (s b : Int) : Bool := if s = 6 then decide (0 ≤ b) && decide (b ≤ 4294967295) else b == 0
def idx (n : Int) : Bool := decide (0 ≤ n) && decide (n ≤ 1000)
def mayLS (s : Int) (l : List Int) : Bool := if s = 4 then decide (l.length ≤ 50) && l.all idx else l.length == 0
def mayI (op a b : Int) (l : List Int) : Bool := mayAS (sh op) a && (mayBS (sh op) b && mayLS (sh op) l)

/-- An instruction's bytes. -/
def encL : List Int → List Int
  | [] => []
  | x :: r => encU 9 x ++ encL r
def resB (a : Int) : Int := if a = 1 then 127 else if a = 2 then 126 else 64
def tailI (s a b : Int) (l : List Int) : List Int :=
  if s = 2 then [resB a] else if s = 3 then encU 9 a else if s = 4 then encU 9 l.length ++ (encL l ++ encU 9 a) else if s = 5 then encU 9 a ++ [0]
  else if s = 6 then encU 9 a ++ encU 9 b else if s = 7 then [0] else if s = 8 ∨ s = 9 then encS 9 a else []
def encI (op a b : Int) (l : List Int) : List Int := op :: tailI (sh op) a b l

/-- How a number of so many bits begins bytes: the number, how many bytes, the error. -/
noncomputable def decU (bits : Int) (xs : List Int) : Int × Nat × Int := by
  classical exact if h : ∃ k, Stop xs ((bits + 6) / 7).toNat k then (if goodU xs bits h.choose then (val (xs.take (h.choose + 1)), h.choose + 1, 0) else (0, 0, 1))
    else if ((bits + 6) / 7).toNat ≤ xs.length then (0, 0, 1) else (0, 0, 2)
noncomputable def decS (bits : Int) (xs : List Int) : Int × Nat × Int := by
  classical exact if h : ∃ k, Stop xs ((bits + 6) / 7).toNat k then (if goodS xs bits h.choose then (sval (xs.take (h.choose + 1)), h.choose + 1, 0) else (0, 0, 1))
    else if ((bits + 6) / 7).toNat ≤ xs.length then (0, 0, 1) else (0, 0, 2)

/-- Where a reader stands, and its first error. -/
structure RS where
  at' : Nat
  err : Int

noncomputable def rU (xs : List Int) (s : RS) : Int × RS :=
  if s.err = 0 then ((decU 32 (xs.drop s.at')).1, ⟨s.at' + (decU 32 (xs.drop s.at')).2.1, (decU 32 (xs.drop s.at')).2.2⟩) else (0, s)
noncomputable def rS (bits : Int) (xs : List Int) (s : RS) : Int × RS :=
  if s.err = 0 then ((decS bits (xs.drop s.at')).1, ⟨s.at' + (decS bits (xs.drop s.at')).2.1, (decS bits (xs.drop s.at')).2.2⟩) else (0, s)
def rOne (xs : List Int) (s : RS) : Int × RS :=
  if s.err = 0 then (if s.at' = xs.length then (0, ⟨s.at', 2⟩) else (xs.getD s.at' 0, ⟨s.at' + 1, 0⟩)) else (0, s)
def need (t : Bool) (s : RS) : RS := if t = false ∧ s.err = 0 then ⟨s.at', 1⟩ else s
noncomputable def rA (f : Int) (xs : List Int) (s : RS) : Int × RS := ((rU xs s).1, need (mayAS f (rU xs s).1) (rU xs s).2)
/-- The list's elements: m of them still to come. -/
noncomputable def rLs (xs : List Int) : Nat → RS → List Int × RS
  | 0, s => ([], s)
  | m + 1, s => if s.err = 0 then ((rA 3 xs s).1 :: (rLs xs m (rA 3 xs s).2).1, (rLs xs m (rA 3 xs s).2).2) else ([], s)
noncomputable def rCount (xs : List Int) (s : RS) : Int × RS := ((rU xs s).1, need (decide ((rU xs s).1 ≤ 50)) (rU xs s).2)
noncomputable def rL (xs : List Int) (s : RS) : List Int × RS := rLs xs (rCount xs s).1.toNat (rCount xs s).2
def resA (x : Int) : Int := if x = 127 then 1 else if x = 126 then 2 else 0
def rRes (xs : List Int) (s : RS) : Int × RS :=
  (resA (rOne xs s).1, need ((rOne xs s).1 == 64 || ((rOne xs s).1 == 127 || (rOne xs s).1 == 126)) (rOne xs s).2)
def rZero (xs : List Int) (s : RS) : RS := need ((rOne xs s).1 == 0) (rOne xs s).2

structure Ins where
  op : Int
  a : Int
  b : Int
  l : List Int

/-- What stands behind the byte op. -/
noncomputable def rTail (xs : List Int) (op : Int) (s : RS) : Ins × RS :=
  if sh op = 0 then (⟨op, 0, 0, []⟩, need false s)
  else if sh op = 2 then (⟨op, (rRes xs s).1, 0, []⟩, (rRes xs s).2)
  else if sh op = 3 then (⟨op, (rA 3 xs s).1, 0, []⟩, (rA 3 xs s).2)
  else if sh op = 4 then (⟨op, (rA 4 xs (rL xs s).2).1, 0, (rL xs s).1⟩, (rA 4 xs (rL xs s).2).2)
  else if sh op = 5 then (⟨op, (rA 5 xs s).1, 0, []⟩, rZero xs (rA 5 xs s).2)
  else if sh op = 6 then (⟨op, (rA 6 xs s).1, (rU xs (rA 6 xs s).2).1, []⟩, (rU xs (rA 6 xs s).2).2)
  else if sh op = 7 then (⟨op, 0, 0, []⟩, rZero xs s)
  else if sh op = 8 then (⟨op, (rS 32 xs s).1, 0, []⟩, (rS 32 xs s).2)
  else if sh op = 9 then (⟨op, (rS 64 xs s).1, 0, []⟩, (rS 64 xs s).2)
  else (⟨op, 0, 0, []⟩, s)
noncomputable def rIns (xs : List Int) : Ins × RS := rTail xs (rOne xs ⟨0, 0⟩).1 (rOne xs ⟨0, 0⟩).2
/-- What Get answers. -/
noncomputable def getI (xs : List Int) : Ins × Nat × Int :=
  if (rIns xs).2.err = 0 then ((rIns xs).1, (rIns xs).2.at', 0) else (⟨0, 0, 0, []⟩, 0, (rIns xs).2.err)
end Go.Proofs.Ytfambbpggodlkaa
