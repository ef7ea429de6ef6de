/- Which bytes are numeric instructions: Kinds of ints and of the reference: what each call answers. -/
import Derived.Test.YtfambbpggodlkaaProg
import Derived.Test.YtfambbpggodlkaaBase
import Derived.Test.YtfambbpggodlkaaQuiet
import Derived.Outline
import Derived.Handy
namespace Go.Proofs.Ytfambbpggodlkaa
open Go.RowKit

/-- The kind of the operands and the instruction's number beside those of I32. -/
def cls (op : Int) : Int × Int :=
  if (69 ≤ op ∧ op ≤ 79) ∨ (103 ≤ op ∧ op ≤ 120) then (1, op)
  else if 80 ≤ op ∧ op ≤ 90 then (2, op - 11)
  else if 121 ≤ op ∧ op ≤ 138 then (2, op - 18)
  else if op = 167 then (2, op)
  else if op = 172 ∨ op = 173 then (1, op) else (0, 0)

theorem cls_to {op c b : Int} (h : cls op = (c, b)) (x y : Int) (g : cls op = (x, y)) : Value.tuple #[.int .i64 x, .int .i64 y] = Value.tuple #[.int .i64 c, .int .i64 b] := by
  rw [g] at h
  cases h
  rfl

theorem cls_to2 {op c b : Int} (h : cls op = (c, b)) (x y : Int) (g : cls op = (x, y)) : Value.tuple #[.int .i64 y, .int .i64 x] = Value.tuple #[.int .i64 b, .int .i64 c] := by
  rw [g] at h
  cases h
  rfl

theorem split_to (op c b : Int) (h : cls op = (c, b)) (w : World) : Calls Try.prog 74 #[.int .i64 op] w fun e w' => e = .returned (.tuple #[.int .i64 c, .int .i64 b]) ∧ w = w' := by
  have H := hid h
  clear h
  go_enter Try.func74, Try.ntmps74
  go_wp2
  all_goals (try simp only [beq_iff_eq, beq_eq_false_iff_ne, ne_eq] at *)
  all_goals (go_ret2; exact ⟨congrArg _ (cls_to H.out _ _ (by unfold cls; repeat (first | rw [if_pos (by omega)] | rw [if_neg (by omega)] | (congr 1; omega)))), rfl⟩)

theorem class_to (op c b : Int) (h : cls op = (c, b)) (w : World) : Calls Try.prog 47 #[.int .i64 op] w fun e w' => e = .returned (.tuple #[.int .i64 b, .int .i64 c]) ∧ w = w' := by
  have H := hid h
  clear h
  go_enter Try.func47, Try.ntmps47
  go_wp2
  all_goals (try simp only [beq_iff_eq, beq_eq_false_iff_ne, ne_eq] at *)
  all_goals (go_ret2; exact ⟨congrArg _ (cls_to2 H.out _ _ (by unfold cls; repeat (first | rw [if_pos (by omega)] | rw [if_neg (by omega)] | (congr 1; omega)))), rfl⟩)

/-- Is it a comparison, a count, a sum of two? -/
theorem isComparison_any (b : Int) (w : World) : Calls Try.prog 75 #[.int .i64 b] w fun e w' => e = .returned (.bool (decide (70 ≤ b) && decide (b ≤ 79))) ∧ w = w' := by
  cases h : decide (70 ≤ b)
  all_goals
    go_enter Try.func75, Try.ntmps75
    go_wp2
    go_ret
    exact ⟨by simp, rfl⟩
theorem isArithmetic_any (b : Int) (w : World) : Calls Try.prog 76 #[.int .i64 b] w fun e w' => e = .returned (.bool (decide (106 ≤ b) && decide (b ≤ 120))) ∧ w = w' := by
  cases h : decide (106 ≤ b)
  all_goals
    go_enter Try.func76, Try.ntmps76
    go_wp2
    go_ret
    exact ⟨by simp, rfl⟩

theorem cls_cases {op c b : Int} (h : cls op = (c, b)) : (c = 0 ∧ b = 0) ∨ ((c = 1 ∨ c = 2) ∧ ((69 ≤ b ∧ b ≤ 79) ∨ (103 ≤ b ∧ b ≤ 120))) ∨ (c = 2 ∧ b = 167) ∨ (c = 1 ∧ (b = 172 ∨ b = 173)) := by
  unfold cls at h
  split at h
  · cases h; omega
  · split at h
    · cases h; omega
    · split at h
      · cases h; omega
      · split at h
        · cases h; omega
        · split at h
          · cases h; omega
          · cases h; omega

/-- How many operands, the result's kind, whether there is such an instruction. -/
def kindsS (b c : Int) : Nat × Int × Bool :=
  if b = 69 then (1, 1, true) else if 70 ≤ b ∧ b ≤ 79 then (2, 1, true) else if 103 ≤ b ∧ b ≤ 105 then (1, c, true) else if 106 ≤ b ∧ b ≤ 120 then (2, c, true)
  else if b = 167 then (1, 1, true) else if b = 172 ∨ b = 173 then (1, 2, true) else (0, 0, false)

/-- The kinds told, and how many. -/
def KindsAre (w w' : World) (e : Ending) (n : Nat) (c r : Int) (t : Bool) : Prop :=
  ∃ ao cap, e = .returned (.tuple #[.slice ao n cap, .int .i64 r, .bool t]) ∧ Rd .i64 w' ao n cap (List.replicate n c) ∧ Below w.heap.size w w'

theorem kinds_eqz (op c b : Int) (hcls : cls op = (c, b)) (hc : (Lit.int .i64 c).wf = true) (hb : b = 69) (w : World) :
    Calls Try.prog 62 #[.int .i64 op] w fun e w' => KindsAre w w' e 1 c 1 true := by
  subst hb
  have Hcls := hid hcls
  have Hc := hid hc
  clear hcls hc
  go_enter Try.func62, Try.ntmps62
  go_wp2_with fail
  refine (split_to _ _ _ Hcls.out _).mono ?_
  rintro e w' ⟨rfl, rfl⟩
  go_wp2_with fail
  go_ret3
  exact ⟨_, _, rfl, Rd.built _ _ _ _ Hc.out, Bl.alloc (Bl.refl _) _⟩

theorem kinds_cmp (op c b : Int) (hcls : cls op = (c, b)) (hc : (Lit.int .i64 c).wf = true) (hb : 70 ≤ b ∧ b ≤ 79) (w : World) :
    Calls Try.prog 62 #[.int .i64 op] w fun e w' => KindsAre w w' e 2 c 1 true := by
  have e69 : (b == 69) = false := by simp; omega
  have ec : (decide (70 ≤ b) && decide (b ≤ 79)) = true := by simp; omega
  clear hb
  have Hcls := hid hcls
  have Hc := hid hc
  clear hcls hc
  go_enter Try.func62, Try.ntmps62
  go_wp2_with fail
  refine (split_to _ _ _ Hcls.out _).mono ?_
  rintro e w' ⟨rfl, rfl⟩
  go_wp2_with fail
  refine (isComparison_any _ _).mono ?_
  rintro e w' ⟨rfl, rfl⟩
  rw [ec]
  go_wp2_with fail
  go_ret3
  exact ⟨_, _, rfl, Rd.built2 _ _ _ _ _ Hc.out Hc.out, Bl.alloc (Bl.refl _) _⟩

theorem kinds_cnt (op c b : Int) (hcls : cls op = (c, b)) (hc : (Lit.int .i64 c).wf = true) (hb : 103 ≤ b ∧ b ≤ 105) (w : World) :
    Calls Try.prog 62 #[.int .i64 op] w fun e w' => KindsAre w w' e 1 c c true := by
  have e69 : (b == 69) = false := by simp; omega
  have ec : (decide (70 ≤ b) && decide (b ≤ 79)) = false := by simp; omega
  have e103 : decide (103 ≤ b) = true := by simp; omega
  have e105 : decide (b ≤ 105) = true := by simp; omega
  clear hb
  have Hcls := hid hcls
  have Hc := hid hc
  clear hcls hc
  go_enter Try.func62, Try.ntmps62
  go_wp2_with fail
  refine (split_to _ _ _ Hcls.out _).mono ?_
  rintro e w' ⟨rfl, rfl⟩
  go_wp2_with fail
  refine (isComparison_any _ _).mono ?_
  rintro e w' ⟨rfl, rfl⟩
  rw [ec]
  go_wp2_with fail
  go_ret3
  exact ⟨_, _, rfl, Rd.built _ _ _ _ Hc.out, Bl.alloc (Bl.refl _) _⟩

theorem kinds_ari (op c b : Int) (hcls : cls op = (c, b)) (hc : (Lit.int .i64 c).wf = true) (hb : 106 ≤ b ∧ b ≤ 120) (w : World) :
    Calls Try.prog 62 #[.int .i64 op] w fun e w' => KindsAre w w' e 2 c c true := by
  have e69 : (b == 69) = false := by simp; omega
  have ec : (decide (70 ≤ b) && decide (b ≤ 79)) = false := by simp; omega
  have e103 : decide (103 ≤ b) = true := by simp; omega
  have e105 : decide (b ≤ 105) = false := by simp; omega
  have ea : (decide (106 ≤ b) && decide (b ≤ 120)) = true := by simp; omega
  clear hb
  have Hcls := hid hcls
  have Hc := hid hc
  clear hcls hc
  go_enter Try.func62, Try.ntmps62
  go_wp2_with fail
  refine (split_to _ _ _ Hcls.out _).mono ?_
  rintro e w' ⟨rfl, rfl⟩
  go_wp2_with fail
  refine (isComparison_any _ _).mono ?_
  rintro e w' ⟨rfl, rfl⟩
  rw [ec]
  go_wp2_with fail
  refine (isArithmetic_any _ _).mono ?_
  rintro e w' ⟨rfl, rfl⟩
  rw [ea]
  go_wp2_with fail
  go_ret3
  exact ⟨_, _, rfl, Rd.built2 _ _ _ _ _ Hc.out Hc.out, Bl.alloc (Bl.refl _) _⟩

theorem kinds_wrap (op c b : Int) (hcls : cls op = (c, b)) (hc : (Lit.int .i64 c).wf = true) (hb : b = 167) (w : World) :
    Calls Try.prog 62 #[.int .i64 op] w fun e w' => KindsAre w w' e 1 c 1 true := by
  have ec : (decide (70 ≤ b) && decide (b ≤ 79)) = false := by simp; omega
  have ea : (decide (106 ≤ b) && decide (b ≤ 120)) = false := by simp; omega
  subst hb
  have Hcls := hid hcls
  have Hc := hid hc
  clear hcls hc
  go_enter Try.func62, Try.ntmps62
  go_wp2_with fail
  refine (split_to _ _ _ Hcls.out _).mono ?_
  rintro e w' ⟨rfl, rfl⟩
  go_wp2_with fail
  refine (isComparison_any _ _).mono ?_
  rintro e w' ⟨rfl, rfl⟩
  rw [ec]
  go_wp2_with fail
  refine (isArithmetic_any _ _).mono ?_
  rintro e w' ⟨rfl, rfl⟩
  rw [ea]
  go_wp2_with fail
  go_ret3
  exact ⟨_, _, rfl, Rd.built _ _ _ _ Hc.out, Bl.alloc (Bl.refl _) _⟩

theorem kinds_ext (op c b : Int) (hcls : cls op = (c, b)) (hc : (Lit.int .i64 c).wf = true) (hb : b = 172 ∨ b = 173) (w : World) :
    Calls Try.prog 62 #[.int .i64 op] w fun e w' => KindsAre w w' e 1 c 2 true := by
  have ec : (decide (70 ≤ b) && decide (b ≤ 79)) = false := by simp; omega
  have ea : (decide (106 ≤ b) && decide (b ≤ 120)) = false := by simp; omega
  rcases hb with rfl | rfl
  all_goals
    have Hcls := hid hcls
    have Hc := hid hc
    clear hcls hc
    go_enter Try.func62, Try.ntmps62
    go_wp2_with fail
    refine (split_to _ _ _ Hcls.out _).mono ?_
    rintro e w' ⟨rfl, rfl⟩
    go_wp2_with fail
    refine (isComparison_any _ _).mono ?_
    rintro e w' ⟨rfl, rfl⟩
    rw [ec]
    go_wp2_with fail
    refine (isArithmetic_any _ _).mono ?_
    rintro e w' ⟨rfl, rfl⟩
    rw [ea]
    go_wp2_with fail
    go_ret3
    exact ⟨_, _, rfl, Rd.built _ _ _ _ Hc.out, Bl.alloc (Bl.refl _) _⟩

theorem kinds_none (op c b : Int) (hcls : cls op = (c, b)) (hc : (Lit.int .i64 c).wf = true) (hb : b = 0) (w : World) :
    Calls Try.prog 62 #[.int .i64 op] w fun e w' => KindsAre w w' e 0 0 0 false := by
  have ec : (decide (70 ≤ b) && decide (b ≤ 79)) = false := by simp; omega
  have ea : (decide (106 ≤ b) && decide (b ≤ 120)) = false := by simp; omega
  subst hb
  have Hcls := hid hcls
  have Hc := hid hc
  clear hcls hc
  go_enter Try.func62, Try.ntmps62
  go_wp2_with fail
  refine (split_to _ _ _ Hcls.out _).mono ?_
  rintro e w' ⟨rfl, rfl⟩
  go_wp2_with fail
  refine (isComparison_any _ _).mono ?_
  rintro e w' ⟨rfl, rfl⟩
  rw [ec]
  go_wp2_with fail
  refine (isArithmetic_any _ _).mono ?_
  rintro e w' ⟨rfl, rfl⟩
  rw [ea]
  go_wp2_with fail
  go_ret3
  exact ⟨_, _, rfl, Rd.empty _ _, Bl.refl _⟩

theorem kinds_to (op c b : Int) (n : Nat) (r : Int) (t : Bool) (hcls : cls op = (c, b)) (h : kindsS b c = (n, r, t)) (w : World) :
    Calls Try.prog 62 #[.int .i64 op] w fun e w' => KindsAre w w' e n (if n = 0 then 0 else c) r t := by
  have hc : (Lit.int .i64 c).wf = true := by
    have := cls_cases hcls
    have : c = 0 ∨ c = 1 ∨ c = 2 := by omega
    rcases this with rfl | rfl | rfl <;> decide
  have g := cls_cases hcls
  unfold kindsS at h
  by_cases b1 : b = 69
  · rw [if_pos b1] at h; cases h; exact kinds_eqz op c b hcls hc b1 w
  rw [if_neg b1] at h
  by_cases b2 : 70 ≤ b ∧ b ≤ 79
  · rw [if_pos b2] at h; cases h; exact kinds_cmp op c b hcls hc b2 w
  rw [if_neg b2] at h
  by_cases b3 : 103 ≤ b ∧ b ≤ 105
  · rw [if_pos b3] at h; cases h; exact kinds_cnt op _ b hcls hc b3 w
  rw [if_neg b3] at h
  by_cases b4 : 106 ≤ b ∧ b ≤ 120
  · rw [if_pos b4] at h; cases h; exact kinds_ari op _ b hcls hc b4 w
  rw [if_neg b4] at h
  by_cases b5 : b = 167
  · rw [if_pos b5] at h; cases h; exact kinds_wrap op c b hcls hc b5 w
  rw [if_neg b5] at h
  by_cases b6 : b = 172 ∨ b = 173
  · rw [if_pos b6] at h; cases h; exact kinds_ext op c b hcls hc b6 w
  rw [if_neg b6] at h
  cases h
  exact kinds_none op c b hcls hc (by omega) w

theorem kinds_leaf {b c : Int} {n : Nat} {k r : Int} {t : Bool} (h : kindsS b c = (n, r, t)) (hk : (if n = 0 then 0 else c) = k) (nn : Nat) (n' k' r' : Int) (t' : Bool) (e1 : (nn : Int) = n') (e2 : (if nn = 0 then 0 else c) = k') (g : kindsS b c = (nn, r', t')) :
    Value.tuple #[.int .i64 n', .int .i64 k', .int .i64 r', .bool t'] = Value.tuple #[.int .i64 n, .int .i64 k, .int .i64 r, .bool t] := by
  rw [g] at h
  cases h
  rw [← e1, ← e2, ← hk]

set_option maxHeartbeats 400000 in
theorem refKinds_to (op c b : Int) (n : Nat) (k r : Int) (t : Bool) (hcls : cls op = (c, b)) (h : kindsS b c = (n, r, t)) (hk : (if n = 0 then 0 else c) = k) (w : World) :
    Calls Try.prog 38 #[.int .i64 op] w fun e w' => e = .returned (.tuple #[.int .i64 n, .int .i64 k, .int .i64 r, .bool t]) ∧ w = w' := by
  have Hg := hid (cls_cases hcls)
  have H := hid h
  have Hcls := hid hcls
  have Hk := hid hk
  clear hcls h hk
  go_enter Try.func38, Try.ntmps38
  go_wp2_with fail
  refine (class_to _ _ _ Hcls.out _).mono ?_
  rintro e w' ⟨rfl, rfl⟩
  go_wp2_with fail
  all_goals (try simp only [beq_iff_eq, beq_eq_false_iff_ne, ne_eq] at *)
  all_goals (have g := Hg.out)
  · refine bodyPost_ret (by simp [results, Try.results38, go_sem]) rfl ⟨congrArg Ending.returned (kinds_leaf H.out Hk.out 0 0 0 0 false rfl rfl ?_), rfl⟩
    unfold kindsS
    repeat (first | rw [if_pos (by omega)] | rw [if_neg (by omega)])
  · refine bodyPost_ret (by simp [results, Try.results38, go_sem]) rfl ⟨congrArg Ending.returned (kinds_leaf H.out Hk.out 1 1 c 1 true rfl rfl ?_), rfl⟩
    unfold kindsS
    repeat (first | rw [if_pos (by omega)] | rw [if_neg (by omega)])
  · refine bodyPost_ret (by simp [results, Try.results38, go_sem]) rfl ⟨congrArg Ending.returned (kinds_leaf H.out Hk.out 2 2 c 1 true rfl rfl ?_), rfl⟩
    unfold kindsS
    repeat (first | rw [if_pos (by omega)] | rw [if_neg (by omega)])
  · refine bodyPost_ret (by simp [results, Try.results38, go_sem]) rfl ⟨congrArg Ending.returned (kinds_leaf H.out Hk.out 1 1 c c true rfl rfl ?_), rfl⟩
    unfold kindsS
    repeat (first | rw [if_pos (by omega)] | rw [if_neg (by omega)])
  · refine bodyPost_ret (by simp [results, Try.results38, go_sem]) rfl ⟨congrArg Ending.returned (kinds_leaf H.out Hk.out 2 2 c c true rfl rfl ?_), rfl⟩
    unfold kindsS
    repeat (first | rw [if_pos (by omega)] | rw [if_neg (by omega)])
  · refine bodyPost_ret (by simp [results, Try.results38, go_sem]) rfl ⟨congrArg Ending.returned (kinds_leaf H.out Hk.out 1 1 c 1 true rfl rfl ?_), rfl⟩
    unfold kindsS
    repeat (first | rw [if_pos (by omega)] | rw [if_neg (by omega)])
  · refine bodyPost_ret (by simp [results, Try.results38, go_sem]) rfl ⟨congrArg Ending.returned (kinds_leaf H.out Hk.out 1 1 c 2 true rfl rfl ?_), rfl⟩
    unfold kindsS
    repeat (first | rw [if_pos (by omega)] | rw [if_neg (by omega)])
end Go.Proofs.Ytfambbpggodlkaa
