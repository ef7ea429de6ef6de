/- Which instructions may be: what the functions that ask it answer. -/
import Derived.Test.YtfambbpggodlkaaKind
import Derived.Test.YtfambbpggodlkaaIns
import Derived.Deep.Cut
namespace Go.Proofs.Ytfambbpggodlkaa
open Go.RowKit

/-- An instruction as a value. -/
abbrev iv (op a b : Int) (ao : Option Addr) (n cap : Nat) : Value := .agg #[.int .i64 op, .int .i64 a, .int .i64 b, .slice ao n cap]

theorem num_cls {op c b : Int} {n : Nat} {r : Int} {t : Bool} (h : cls op = (c, b)) (g : kindsS b c = (n, r, t)) : t = numI op := by
  unfold cls at h
  unfold kindsS at g
  by_cases h1 : (69 ≤ op ∧ op ≤ 79) ∨ (103 ≤ op ∧ op ≤ 120)
  · rw [if_pos h1] at h; cases h
    have hn : numI op = true := by simp [numI]; omega
    rw [hn]
    (repeat' split at g) <;> (cases g; first | rfl | (exfalso; omega))
  rw [if_neg h1] at h
  by_cases h2 : 80 ≤ op ∧ op ≤ 90
  · rw [if_pos h2] at h; cases h
    have hn : numI op = true := by simp [numI]; omega
    rw [hn]
    (repeat' split at g) <;> (cases g; first | rfl | (exfalso; omega))
  rw [if_neg h2] at h
  by_cases h3 : 121 ≤ op ∧ op ≤ 138
  · rw [if_pos h3] at h; cases h
    have hn : numI op = true := by simp [numI]; omega
    rw [hn]
    (repeat' split at g) <;> (cases g; first | rfl | (exfalso; omega))
  rw [if_neg h3] at h
  by_cases h4 : op = 167
  · rw [if_pos h4] at h; cases h
    have hn : numI op = true := by simp [numI]; omega
    rw [hn]
    (repeat' split at g) <;> (cases g; first | rfl | (exfalso; omega))
  rw [if_neg h4] at h
  by_cases h5 : op = 172 ∨ op = 173
  · rw [if_pos h5] at h; cases h
    have hn : numI op = true := by simp [numI]; omega
    rw [hn]
    (repeat' split at g) <;> (cases g; first | rfl | (exfalso; omega))
  rw [if_neg h5] at h
  cases h
  have hn : numI op = false := by rw [Bool.eq_false_iff]; intro hh; simp [numI] at hh; omega
  rw [hn]
  (repeat' split at g) <;> (cases g; first | rfl | (exfalso; omega))

theorem sh_leaf {op s : Int} (h : sh op = s) (x : Int) (g : sh op = x) : Ending.returned (.int .i64 x) = .returned (.int .i64 s) := by rw [← h, g]

set_option maxHeartbeats 1000000 in
theorem shape_to (op s : Int) (h : sh op = s) (w : World) : Calls Try.prog 48 #[.int .i64 op] w fun e w' => e = .returned (.int .i64 s) ∧ Below w.heap.size w w' := by
  have H := hid h
  clear h
  obtain ⟨c, b, hc⟩ : ∃ c b, cls op = (c, b) := ⟨_, _, rfl⟩
  obtain ⟨n, r, t, hk⟩ : ∃ n r t, kindsS b c = (n, r, t) := ⟨_, _, _, rfl⟩
  have Hn := hid (num_cls hc hk)
  have Hc := hid hc
  have Hk := hid hk
  clear hc hk
  cases t
  all_goals
    go_enter Try.func48, Try.ntmps48
    go_wp2_with (go_at_call 62; refine (kinds_to _ _ _ _ _ _ Hc.out Hk.out _).mono ?_; rintro e w' ⟨ao, cap, rfl, _, hb⟩)
    all_goals (try simp only [beq_iff_eq, beq_eq_false_iff_ne, ne_eq] at *)
    all_goals
      have hn := Hn.out
      go_ret
      first
        | exact ⟨sh_leaf H.out _ (by unfold sh; first | rw [if_pos (by omega)] | (repeat (first | rw [if_pos (by omega)] | rw [if_neg (by omega)])) | skip), Bl.refl _⟩
        | exact ⟨sh_leaf H.out _ (by unfold sh; (repeat rw [if_neg (by omega)]); first | rw [if_pos hn.symm] | rw [if_neg (by rw [← hn]; decide)] | done), hb⟩

set_option maxHeartbeats 1000000 in
theorem form_to (op s : Int) (h : sh op = s) (w : World) : Calls Try.prog 28 #[.int .i64 op] w fun e w' => e = .returned (.int .i64 s) ∧ w = w' := by
  have H := hid h
  clear h
  obtain ⟨c, b, hc⟩ : ∃ c b, cls op = (c, b) := ⟨_, _, rfl⟩
  obtain ⟨n, r, t, hk⟩ : ∃ n r t, kindsS b c = (n, r, t) := ⟨_, _, _, rfl⟩
  have Hn := hid (num_cls hc hk)
  have Hc := hid hc
  have Hk := hid hk
  clear hc hk
  cases t
  all_goals
    go_enter Try.func28, Try.ntmps28
    go_wp2_with (go_at_call 38; refine (refKinds_to _ _ _ _ _ _ _ Hc.out Hk.out rfl _).mono ?_; rintro e w' ⟨rfl, rfl⟩)
    all_goals (try simp only [beq_iff_eq, beq_eq_false_iff_ne, ne_eq] at *)
    all_goals
      have hn := Hn.out
      go_ret
      exact ⟨sh_leaf H.out _ (by unfold sh; (repeat (first | rw [if_pos (by omega)] | rw [if_neg (by omega)])); try (first | rw [if_pos hn.symm] | rw [if_neg (by rw [← hn]; decide)])), rfl⟩

theorem bool_leaf {x y t : Bool} (h : x = t) (g : y = x) : Ending.returned (.bool y) = .returned (.bool t) := by rw [← h, g]

set_option maxHeartbeats 1000000 in
theorem mayA_to (s a : Int) (t : Bool) (hs : 0 ≤ s ∧ s ≤ 9) (h : mayAS s a = t) (w : World) : Calls Try.prog 49 #[.int .i64 s, .int .i64 a] w fun e w' => e = .returned (.bool t) ∧ w = w' := by
  have H := hid h
  clear h
  have e : s = 0 ∨ s = 1 ∨ s = 2 ∨ s = 3 ∨ s = 4 ∨ s = 5 ∨ s = 6 ∨ s = 7 ∨ s = 8 ∨ s = 9 := by omega
  clear hs
  rcases e with rfl | rfl | rfl | rfl | rfl | rfl | rfl | rfl | rfl | rfl
  case inr.inr.inl =>
    cases h0 : (a == 0) <;> cases h1 : (a == 1)
    all_goals
      go_enter Try.func49, Try.ntmps49
      go_wp2
      go_ret
      exact ⟨bool_leaf H.out (by first | (simp_all [mayAS]; done) | (rw [Bool.eq_iff_iff]; simp_all [mayAS]; done) | (simp_all [mayAS]; omega)), rfl⟩
  case inr.inr.inr.inr.inr.inr.inr.inr.inl =>
    cases h0 : decide (-2147483648 ≤ a)
    all_goals
      go_enter Try.func49, Try.ntmps49
      go_wp2
      go_ret
      exact ⟨bool_leaf H.out (by first | (simp_all [mayAS]; done) | (rw [Bool.eq_iff_iff]; simp_all [mayAS]; done) | (simp_all [mayAS]; omega)), rfl⟩
  all_goals
    cases h0 : decide (0 ≤ a)
    all_goals
      go_enter Try.func49, Try.ntmps49
      go_wp2
      go_ret
      exact ⟨bool_leaf H.out (by first | (simp_all [mayAS]; done) | (rw [Bool.eq_iff_iff]; simp_all [mayAS]; done) | (simp_all [mayAS]; omega)), rfl⟩

theorem mayB_to (s b : Int) (t : Bool) (hs : 0 ≤ s ∧ s ≤ 9) (h : mayBS s b = t) (w : World) : Calls Try.prog 50 #[.int .i64 s, .int .i64 b] w fun e w' => e = .returned (.bool t) ∧ w = w' := by
  have H := hid h
  clear h
  by_cases e : s = 6
  · subst e
    cases h0 : decide (0 ≤ b)
    all_goals
      go_enter Try.func50, Try.ntmps50
      go_wp2
      go_ret
      exact ⟨bool_leaf H.out (by first | (simp_all [mayBS]; done) | (simp_all [mayBS]; omega)), rfl⟩
  · have e' : (s == 6) = false := by simpa using e
    go_enter Try.func50, Try.ntmps50
    go_wp2
    go_ret
    exact ⟨bool_leaf H.out (by unfold mayBS; rw [if_neg e]), rfl⟩

theorem mayLS_len {l : List Int} {n : Nat} (hl : l.length = n) (s : Int) (e : s ≠ 4) : mayLS s l = ((n : Int) == 0) := by
  unfold mayLS
  rw [if_neg e, hl]
  rw [Bool.eq_iff_iff, beq_iff_eq, beq_iff_eq]
  omega
theorem idx_at {l : List Int} {k : Nat} (hk : k < l.length) : idx l[k] = mayAS 3 (l.getD k 0) := by simp [List.getD, hk, mayAS, idx]
theorem all_idx_bad {l : List Int} {k : Nat} (hk : k < l.length) (h : mayAS 3 (l.getD k 0) = false) : l.all idx = false := by
  rw [List.all_eq_false]
  exact ⟨l[k], List.getElem_mem hk, by rw [idx_at hk, h]; decide⟩
theorem all_idx_ok {l : List Int} (h : ∀ i, i < l.length → mayAS 3 (l.getD i 0) = true) : l.all idx = true := by
  rw [List.all_eq_true]
  intro x hx
  obtain ⟨i, hi, rfl⟩ := List.mem_iff_getElem.1 hx
  rw [idx_at hi]
  exact h i hi

set_option maxHeartbeats 1000000 in
theorem mayList_to (s : Int) (ao : Option Addr) (n cap : Nat) (l : List Int) (t : Bool) (h : mayLS s l = t) (w : World) (hr : Rd .i64 w ao n cap l) :
    Calls Try.prog 51 #[.int .i64 s, .slice ao n cap] w fun e w' => e = .returned (.bool t) ∧ w = w' := by
  have hn63 : n ≤ 9223372036854775807 := by have h1 := hr.le; have h2 := hr.max; unfold maxLen at h2; omega
  have hx := hr.len
  have Hx := hid hx
  have H := hid h
  clear h hx
  by_cases e : s = 4
  · subst e
    by_cases hn : n ≤ 50
    · have hn' : ¬ 50 < n := by omega
      go_enter Try.func51, Try.ntmps51
      go_wp2
      go_loop [6, 17] (fun x i => ∃ k : Nat, k ≤ n ∧ i = .int .i64 k ∧ Hid (∀ i, i < k → mayAS 3 (l.getD i 0) = true)) (fun _ i => n - (intOf i).toNat)
      case atStart => exact ⟨0, Nat.zero_le _, rfl, fun i hi => by omega⟩
      case round =>
        obtain ⟨k, hkn, rfl, Hall⟩ := hrel
        by_cases hk : k < n
        · obtain ⟨b, off, rfl, hc⟩ := hr.at (by omega)
          have hck := hc k hk
          obtain ⟨x, hxk⟩ : ∃ x, x = l.getD k 0 := ⟨_, rfl⟩
          rw [← hxk] at hck
          have Hxk := hid hxk
          clear hc hxk
          obtain ⟨t1, ht⟩ : ∃ t1, mayAS 3 x = t1 := ⟨_, rfl⟩
          have Ht := hid ht
          clear ht
          cases t1
          · go_wp2_with (go_at_call 49; refine (mayA_to _ _ _ (by omega) Ht.out _).mono ?_; rintro e w' ⟨rfl, rfl⟩)
            go_ret
            refine ⟨bool_leaf H.out ?_, rfl⟩
            have hb := all_idx_bad (l := l) (k := k) (by rw [Hx.out]; exact hk) (by rw [← Hxk.out]; exact Ht.out)
            simp [mayLS, hb]
          · go_wp2_with (go_at_call 49; refine (mayA_to _ _ _ (by omega) Ht.out _).mono ?_; rintro e w' ⟨rfl, rfl⟩)
            go_round
            case rel =>
              refine ⟨k + 1, by omega, by go_num, ?_⟩
              show ∀ i, i < k + 1 → mayAS 3 (l.getD i 0) = true
              intro i hi
              by_cases e : i = k
              · rw [e, ← Hxk.out]; exact Ht.out
              · exact Hall.out i (by omega)
            case measure => simp [intOf]; omega
        · have e0 : k = n := by omega
          subst e0
          go_wp2
          go_ret
          refine ⟨bool_leaf H.out ?_, rfl⟩
          have hb := all_idx_ok (l := l) (by rw [Hx.out]; exact Hall.out)
          simp [mayLS, hb, Hx.out, hn]
    · have hn' : 50 < n := by omega
      go_enter Try.func51, Try.ntmps51
      go_wp2
      go_ret
      exact ⟨bool_leaf H.out (by simp [mayLS, Hx.out, hn]), rfl⟩
  · have e' : (s != 4) = true := by simpa using e
    go_enter Try.func51, Try.ntmps51
    go_wp2
    go_ret
    exact ⟨bool_leaf H.out (mayLS_len Hx.out s e).symm, rfl⟩

set_option maxHeartbeats 1000000 in
theorem may_to (op a b : Int) (ao : Option Addr) (n cap : Nat) (l : List Int) (t : Bool) (h : mayI op a b l = t) (w : World) (hr : Rd .i64 w ao n cap l) :
    Calls Try.prog 39 #[iv op a b ao n cap] w fun e w' => e = .returned (.bool t) ∧ Below w.heap.size w w' := by
  obtain ⟨s, hs⟩ : ∃ s, sh op = s := ⟨_, rfl⟩
  have hsb := sh_bounds op
  unfold mayI at h
  rw [hs] at h hsb
  obtain ⟨t1, h1⟩ : ∃ t1, mayAS s a = t1 := ⟨_, rfl⟩
  obtain ⟨t2, h2⟩ : ∃ t2, mayBS s b = t2 := ⟨_, rfl⟩
  obtain ⟨t3, h3⟩ : ∃ t3, mayLS s l = t3 := ⟨_, rfl⟩
  rw [h1, h2, h3] at h
  have H := hid h
  have H1 := hid h1
  have H2 := hid h2
  have H3 := hid h3
  have Hs := hid hs
  clear h h1 h2 h3 hs
  cases t1 <;> cases t2
  all_goals
    go_enter Try.func39, Try.ntmps39
    go_wp2_with fail
    refine (shape_to _ _ Hs.out _).mono ?_
    rintro e w1 ⟨rfl, hb⟩
    have hbb := Bl.step (Bl.alloc (Bl.refl w) _) hb
    have hr1 := hr.below hbb
    obtain ⟨hc, hf⟩ := bcell hb
    go_wp2_with (first
      | (go_at_call 49; refine (mayA_to _ _ _ hsb H1.out _).mono ?_; rintro e w' ⟨rfl, rfl⟩)
      | (go_at_call 50; refine (mayB_to _ _ _ hsb H2.out _).mono ?_; rintro e w' ⟨rfl, rfl⟩)
      | (go_at_call 51; refine (mayList_to _ _ _ _ _ _ H3.out _ hr1).mono ?_; rintro e w' ⟨rfl, rfl⟩))
    go_ret
    exact ⟨bool_leaf H.out (by simp), hbb⟩


set_option maxHeartbeats 1000000 in
theorem eqInts_to (ao ao' : Option Addr) (n n' cap cap' : Nat) (l l' : List Int) (t : Bool) (h : (l == l') = t) (w : World) (hr : Rd .i64 w ao n cap l) (hr' : Rd .i64 w ao' n' cap' l') :
    Calls Try.prog 15 #[.slice ao n cap, .slice ao' n' cap'] w fun e w' => e = .returned (.bool t) ∧ Below w.heap.size w w' := by
  have hn63 : n ≤ 9223372036854775807 := by have h1 := hr.le; have h2 := hr.max; unfold maxLen at h2; omega
  have hn63' : n' ≤ 9223372036854775807 := by have h1 := hr'.le; have h2 := hr'.max; unfold maxLen at h2; omega
  have hx := hr.len
  have hx' := hr'.len
  have Hx := hid hx
  have Hx' := hid hx'
  have H := hid h
  clear h hx hx'
  by_cases e : n = n'
  · subst e
    go_enter Try.func15, Try.ntmps15
    go_wp2
    go_loopw [5] (fun i wr => ∃ k : Nat, k ≤ n ∧ i = .int .i64 k ∧ Hid (∀ i, i < k → l.getD i 0 = l'.getD i 0) ∧ Below w.heap.size w wr) (fun i _ => n - (intOf i).toNat)
    case atStart => exact ⟨0, Nat.zero_le _, rfl, fun i hi => by omega, Below.refl _ _⟩
    case round =>
      obtain ⟨k, hkn, rfl, Hall, hb⟩ := hrel
      by_cases hk : k < n
      · obtain ⟨b, off, rfl, hc⟩ := (hr.below hb).at (by omega)
        obtain ⟨b', off', rfl, hc'⟩ := (hr'.below hb).at (by omega)
        have hck := hc k hk
        have hck' := hc' k hk
        obtain ⟨x, hxk⟩ : ∃ x, x = l.getD k 0 := ⟨_, rfl⟩
        obtain ⟨x', hxk'⟩ : ∃ x, x = l'.getD k 0 := ⟨_, rfl⟩
        rw [← hxk] at hck
        rw [← hxk'] at hck'
        have Hxk := hid hxk
        have Hxk' := hid hxk'
        clear hc hxk hc' hxk'
        by_cases e : x = x'
        · subst e
          go_wp2_with fail
          go_quiet (fail)
          go_wp2_with fail
          go_roundw
          case rel =>
            refine ⟨k + 1, by omega, by go_num, ?_, hb.trans (below_drewN _ _ _)⟩
            show ∀ i, i < k + 1 → l.getD i 0 = l'.getD i 0
            intro i hi
            by_cases e : i = k
            · rw [e, ← Hxk.out, ← Hxk'.out]
            · exact Hall.out i (by omega)
          case measure => simp [intOf]; omega
        · have ex : (x != x') = true := by simp [e]
          go_wp2_with fail
          go_quiet (fail)
          go_wp2_with fail
          go_ret
          refine ⟨bool_leaf H.out ?_, hb.trans (below_drewN _ _ _)⟩
          symm
          rw [beq_eq_false_iff_ne]
          intro h
          exact e (by rw [Hxk.out, Hxk'.out, h])
      · have e0 : k = n := by omega
        subst e0
        go_wp2_with fail
        go_ret
        refine ⟨bool_leaf H.out ?_, hb⟩
        symm
        rw [beq_iff_eq]
        refine List.ext_getElem (by rw [Hx.out, Hx'.out]) fun i hi hi' => ?_
        have := Hall.out i (by rw [← Hx.out]; exact hi)
        simpa [List.getD, hi, hi'] using this
  · have e' : ((n : Int) != (n' : Int)) = true := by simp; omega
    go_enter Try.func15, Try.ntmps15
    go_wp2
    go_ret
    refine ⟨bool_leaf H.out ?_, Below.refl _ _⟩
    symm
    rw [beq_eq_false_iff_ne]
    intro h
    exact e (by rw [← Hx.out, ← Hx'.out, h])
end Go.Proofs.Ytfambbpggodlkaa
