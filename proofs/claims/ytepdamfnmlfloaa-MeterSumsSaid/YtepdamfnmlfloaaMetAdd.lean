/- A sum of complex numbers of whole parts. -/
import Derived.Test.YtepdamfnmlfloaaMet
namespace Go.Proofs.Ytepdamfnmlfloaa
open Go.RowKit

/-- A slice of complex numbers of whole parts is read. -/
structure RdC (w : World) (ao : Option Addr) (n cap : Nat) (ps : List (Int × Int)) : Prop where
  len : ps.length = n
  le : n ≤ cap
  max : cap ≤ maxLen
  nil : ao = none → cap = 0
  cell : ∀ ad, ao = some ad → ∃ b off, ad = ⟨b, off, none⟩ ∧ ∀ i, i < n → ∃ z z', w.cell? ⟨b, off + i, none⟩ = some (cx z z' (ps.getD i (0, 0)).1 (ps.getD i (0, 0)).2)

def s1 (ps : List (Int × Int)) : Int := (ps.map Prod.fst).sum
def s2 (ps : List (Int × Int)) : Int := (ps.map Prod.snd).sum

theorem s1_append (a b : List (Int × Int)) : s1 (a ++ b) = s1 a + s1 b := by simp [s1]
theorem s2_append (a b : List (Int × Int)) : s2 (a ++ b) = s2 a + s2 b := by simp [s2]

theorem take_snoc {α : Type} (ps : List α) (d : α) (k : Nat) (h : k < ps.length) : ps.take (k + 1) = ps.take k ++ [ps.getD k d] := by
  rw [List.take_add_one]
  simp [List.getD, h]

theorem getD_mem {α : Type} (ps : List α) (d : α) (k : Nat) (h : k < ps.length) : ps.getD k d ∈ ps := by simp [List.getD, h]

/-- All parts are at most B. -/
def Upto (B : Nat) (ps : List (Int × Int)) : Prop := ∀ p ∈ ps, p.1.natAbs ≤ B ∧ p.2.natAbs ≤ B

theorem Upto.sum {B : Nat} : ∀ {ps : List (Int × Int)}, Upto B ps → (s1 ps).natAbs ≤ ps.length * B ∧ (s2 ps).natAbs ≤ ps.length * B := by
  intro ps
  induction ps with
  | nil => intro _; simp [s1, s2]
  | cons p r ih =>
    intro h
    obtain ⟨i1, i2⟩ := ih (fun q hq => h q (by simp [hq]))
    obtain ⟨p1, p2⟩ := h p (by simp)
    have e1 : s1 (p :: r) = p.1 + s1 r := by simp [s1]
    have e2 : s2 (p :: r) = p.2 + s2 r := by simp [s2]
    rw [e1, e2, List.length_cons, Nat.succ_mul]
    omega

theorem Upto.take {B : Nat} {ps : List (Int × Int)} (h : Upto B ps) (k : Nat) : Upto B (ps.take k) := fun p hp => h p (List.mem_of_mem_take hp)
theorem Upto.drop {B : Nat} {ps : List (Int × Int)} (h : Upto B ps) (k : Nat) : Upto B (ps.drop k) := fun p hp => h p (List.mem_of_mem_drop hp)

theorem add_any (ao : Option Addr) (n cap : Nat) (ps : List (Int × Int)) (w : World) (h : RdC w ao n cap ps) (hn : n ≤ 40) (hB : Upto (2 ^ 40) ps) :
    Calls Try.prog 13 #[.slice ao n cap] w fun e w' => RetC e (s1 ps) (s2 ps) ∧ w = w' := by
  have hlen := h.len
  have H := hid h
  have HB := hid hB
  clear h hB
  go_enter Try.func13, Try.ntmps13
  go_wp2
  go_loop [3, 4, 10] (fun s l i => ∃ k : Nat, k ≤ n ∧ i = .int .i64 k ∧ (∃ z z', s = cx z z' (s1 (ps.take k)) (s2 (ps.take k))) ∧ (∃ u u', l = cx u u' 0 0)) (fun _ _ i => n - (intOf i).toNat)
  case atStart => exact ⟨0, Nat.zero_le _, rfl, ⟨false, false, by simp [s1, s2, fw_0]⟩, ⟨false, false, by simp [fw_0]⟩⟩
  case round =>
    obtain ⟨k, hk, rfl, ⟨z, z', rfl⟩, ⟨u, u', rfl⟩⟩ := hrel
    by_cases hkn : k < n
    · obtain ⟨b1, b2⟩ := (HB.out.take k).sum
      obtain ⟨b3, b4⟩ := (HB.out.take (k + 1)).sum
      rw [List.length_take, hlen, Nat.min_eq_left (by omega)] at b1 b2 b3 b4
      have tk := take_snoc ps (0, 0) k (by omega)
      have m1 := s1_append (ps.take k) [ps.getD k (0, 0)]
      have m2 := s2_append (ps.take k) [ps.getD k (0, 0)]
      rw [← tk] at m1 m2
      have c0 : (ps.getD k (0, 0)).1.natAbs ≤ 2 ^ 40 ∧ (ps.getD k (0, 0)).2.natAbs ≤ 2 ^ 40 := HB.out _ (getD_mem ps (0, 0) k (by omega))
      have hc : ∃ b off z z', ao = some ⟨b, off, none⟩ ∧ w.cell? ⟨b, off + k, none⟩ = some (cx z z' (ps.getD k (0, 0)).1 (ps.getD k (0, 0)).2) := by
        cases ao with
        | none => have := H.out.nil rfl; have := H.out.le; omega
        | some ad =>
          obtain ⟨b, off, rfl, hc⟩ := H.out.cell ad rfl
          obtain ⟨z, z', e⟩ := hc k hkn
          exact ⟨b, off, z, z', rfl, e⟩
      generalize ps.getD k (0, 0) = q at *
      obtain ⟨c1, c2⟩ := q
      obtain ⟨b, off, y, y', rfl, hcell⟩ := hc
      have e1 : s1 [(c1, c2)] = c1 := by simp [s1]
      have e2 : s2 [(c1, c2)] = c2 := by simp [s2]
      rw [e1] at m1
      rw [e2] at m2
      dsimp only at c0 hcell
      have q1 := m1.symm
      have q2 := m2.symm
      clear tk m1 m2 e1 e2
      obtain ⟨t1, ht1⟩ : ∃ t, t = s1 (ps.take (k + 1)) := ⟨_, rfl⟩
      obtain ⟨t2, ht2⟩ : ∃ t, t = s2 (ps.take (k + 1)) := ⟨_, rfl⟩
      rw [← ht1] at q1 b3
      rw [← ht2] at q2 b4
      generalize s1 (ps.take k) = r1 at *
      generalize s2 (ps.take k) = r2 at *
      have g1 : k ≤ 40 := by omega
      have g2 : k * 2 ^ 40 ≤ 40 * 2 ^ 40 := Nat.mul_le_mul_right _ g1
      have g3 : (k + 1) * 2 ^ 40 ≤ 40 * 2 ^ 40 := Nat.mul_le_mul_right _ (by omega)
      obtain ⟨z1, z2, hadd⟩ := cx_add (P := Try.prog) z z' y y' r1 r2 c1 c2 t1 t2 (by omega) (by omega) (by omega) (by omega) (by omega) (by omega) (by omega) (by omega)
      obtain ⟨z3, z4, hsub⟩ := cx_sub (P := Try.prog) z1 z2 z z' t1 t2 r1 r2 c1 c2 (by omega) (by omega) (by omega) (by omega) (by omega) (by omega) (by omega) (by omega)
      obtain ⟨z5, z6, hsub2⟩ := cx_sub (P := Try.prog) y y' z3 z4 c1 c2 c1 c2 0 0 (by omega) (by omega) (by omega) (by omega) (by omega) (by omega) (by omega) (by omega)
      obtain ⟨z7, z8, hadd2⟩ := cx_add (P := Try.prog) u u' z5 z6 0 0 0 0 0 0 (by omega) (by omega) (by omega) (by omega) (by omega) (by omega) (by omega) (by omega)
      have Hc := hid c0
      have Q := hid (And.intro ht1 ht2)
      clear ht1 ht2 q1 q2 b1 b2 b3 b4 c0 g1 g2 g3
      go_wp2
      go_round
      case rel => exact ⟨k + 1, by omega, by go_num, ⟨z1, z2, by rw [Q.out.1, Q.out.2]⟩, ⟨z7, z8, rfl⟩⟩
      case measure => simp [intOf]; omega
    · have hkn' : k = n := by omega
      subst hkn'
      have hps : ps.take k = ps := List.take_of_length_le (by omega)
      rw [hps]
      obtain ⟨b1, b2⟩ := HB.out.sum
      rw [hlen] at b1 b2
      have g2 : k * 2 ^ 40 ≤ 40 * 2 ^ 40 := Nat.mul_le_mul_right _ hn
      obtain ⟨z1, z2, hadd⟩ := cx_add (P := Try.prog) z z' u u' (s1 ps) (s2 ps) 0 0 (s1 ps) (s2 ps) (by omega) (by omega) (by omega) (by omega) (by omega) (by omega) (by omega) (by omega)
      clear b1 b2 g2 hps
      go_wp2
      go_ret
      exact ⟨.mk z1 z2 rfl, rfl⟩
end Go.Proofs.Ytepdamfnmlfloaa
