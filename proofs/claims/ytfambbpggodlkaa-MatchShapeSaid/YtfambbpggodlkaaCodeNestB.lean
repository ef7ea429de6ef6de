/- code.nest: part, end. -/
import Derived.Test.YtfambbpggodlkaaCodeNest
namespace Go.Proofs.Ytfambbpggodlkaa
open Go.RowKit

theorem part_none (B p : Nat) (s : Ns) (i : Nat) (w : World) (hN : Nest B w p s) (h0 : s.op = []) :
    Calls Try.prog 36 #[.pointer (some ⟨p, 0, none⟩), .int .i64 i] w fun e w' => e = .returned (.bool false) ∧ w = w' := by
  obtain ⟨bo, bc, oo, oc, hp, _⟩ := hN.shape
  rw [h0] at hp
  have c0 := hp.c0
  have c1 := hp.c1
  clear hp hN
  go_enter Try.func36, Try.ntmps36
  go_wp2_with fail
  go_ret
  exact ⟨rfl, rfl⟩
theorem end_none (B p : Nat) (s : Ns) (i : Nat) (w : World) (hN : Nest B w p s) (h0 : s.op = []) :
    Calls Try.prog 37 #[.pointer (some ⟨p, 0, none⟩), .int .i64 i] w fun e w' => e = .returned (.bool false) ∧ w = w' := by
  obtain ⟨bo, bc, oo, oc, hp, _⟩ := hN.shape
  rw [h0] at hp
  have c0 := hp.c0
  have c1 := hp.c1
  clear hp hN
  go_enter Try.func37, Try.ntmps37
  go_wp2_with fail
  go_ret
  exact ⟨rfl, rfl⟩

/-- The innermost open one's cells. -/
theorem top_cells {B g n cap k : Nat} {f : Bool} {r : List (Nat × Bool)} {w : World} (h : OwnC 77 2 B w (.slice (some ⟨g, 0, none⟩) n cap) (((k, f) :: r).reverse.map opC)) :
    w.cell? ⟨g, r.length * 2, none⟩ = some (.int .i64 (k : Int)) ∧ w.cell? ⟨g, r.length * 2 + 1, none⟩ = some (.bool f) ∧ w.frozen? ⟨g, r.length * 2 + 1, none⟩ = false := by
  have hi : r.length < (((k, f) :: r).reverse.map opC).length := by simp
  have hg : (((k, f) :: r).reverse.map opC).getD r.length [] = opC (k, f) := by simp [List.getD]
  have h0 := h.cell r.length 0 hi (u := .int .i64 (k : Int)) (by rw [hg]; rfl)
  have h1 := h.cell r.length 1 hi (u := .bool f) (by rw [hg]; rfl)
  exact ⟨by simpa using h0.1, h1.1, h1.2.1⟩
/-- A block's cells. -/
theorem blk_cells {E : TypeId} {B g n cap k : Nat} {z : Int} {bl : List Bk} {w : World} (h : OwnC E 3 B w (.slice (some ⟨g, 0, none⟩) n cap) (bl.map (bkC z))) (hk : k < bl.length) :
    w.cell? ⟨g, k * 3, none⟩ = some (.int .i64 (bl.getD k default).at') ∧ w.cell? ⟨g, k * 3 + 1, none⟩ = some (.int .i64 (bl.getD k default).els) ∧
    w.cell? ⟨g, k * 3 + 2, none⟩ = some (.int .i64 (if (bl.getD k default).en = -1 then z else (bl.getD k default).en)) ∧ w.frozen? ⟨g, k * 3 + 1, none⟩ = false ∧ w.frozen? ⟨g, k * 3 + 2, none⟩ = false := by
  have hi : k < (bl.map (bkC z)).length := by simpa using hk
  have hg : (bl.map (bkC z)).getD k [] = bkC z (bl.getD k default) := by simp [List.getD, hk]
  have h0 := h.cell k 0 hi (u := .int .i64 (bl.getD k default).at') (by rw [hg]; rfl)
  have h1 := h.cell k 1 hi (u := .int .i64 (bl.getD k default).els) (by rw [hg]; rfl)
  have h2 := h.cell k 2 hi (u := .int .i64 (if (bl.getD k default).en = -1 then z else (bl.getD k default).en)) (by rw [hg]; rfl)
  exact ⟨by simpa using h0.1, h1.1, h2.1, h1.2.1, h2.2.1⟩

theorem top_set {k : Nat} {f : Bool} {r : List (Nat × Bool)} (f' : Bool) : ((((k, f) :: r).reverse.map opC).set r.length (((((k, f) :: r).reverse.map opC).getD r.length []).set 1 (.bool f'))) = ((k, f') :: r).reverse.map opC := by
  simp [List.getD, opC]
theorem blk_els {z : Int} {s : Ns} {k : Nat} (i : Int) (hk : k < s.bl.length) : ((s.bl.map (bkC z)).set k (((s.bl.map (bkC z)).getD k []).set 1 (.int .i64 i))) = (nsEls s k i).map (bkC z) := by
  have e : (s.bl.map (bkC z)).getD k [] = bkC z (s.bl.getD k default) := by simp [List.getD, hk]
  rw [e]
  unfold nsEls
  rw [List.map_set]
  rfl
theorem blk_end {z : Int} {s : Ns} {k : Nat} (i : Int) (hk : k < s.bl.length) (hi : i ≠ -1) : ((s.bl.map (bkC z)).set k (((s.bl.map (bkC z)).getD k []).set 2 (.int .i64 i))) = (nsEnd s k i).map (bkC z) := by
  have e : (s.bl.map (bkC z)).getD k [] = bkC z (s.bl.getD k default) := by simp [List.getD, hk]
  rw [e]
  unfold nsEnd
  rw [List.map_set]
  simp [bkC, hi]

theorem part_false (B p : Nat) (s : Ns) (k : Nat) (r : List (Nat × Bool)) (i : Nat) (w : World) (hN : Nest B w p s) (h0 : s.op = (k, false) :: r) :
    Calls Try.prog 36 #[.pointer (some ⟨p, 0, none⟩), .int .i64 i] w fun e w' => e = .returned (.bool false) ∧ w = w' := by
  obtain ⟨bo, bc, oo, oc, hp, hB, hb, ho, h1, h2, h3, h4, n1, n2, n3, _, h5⟩ := hN.shape
  rw [h0] at hp ho h5 h3
  obtain ⟨g, rfl⟩ := h5 (by simp)
  obtain ⟨t1, t2, t3⟩ := top_cells ho
  obtain ⟨m, hm⟩ : ∃ m, m = r.length := ⟨_, rfl⟩
  simp only [List.length_cons, ← hm] at hp h3 t1 t2 t3
  have c0 := hp.c0
  have c1 := hp.c1
  have hm1 : (m : Int) + 1 - 1 = m := by omega
  have hm2 : ((m : Int) < 0) = False := by simp
  have HM := hid hm
  clear hp hN hb ho n1 n2 n3 hm h5
  go_enter Try.func36, Try.ntmps36
  go_wp2_with fail
  go_ret
  exact ⟨rfl, rfl⟩

set_option maxHeartbeats 1000000 in
theorem part_to (B p : Nat) (s : Ns) (k : Nat) (r : List (Nat × Bool)) (i : Nat) (w : World) (hN : Nest B w p s) (h0 : s.op = (k, true) :: r) (hk : k < s.bl.length) :
    Calls Try.prog 36 #[.pointer (some ⟨p, 0, none⟩), .int .i64 i] w fun e w' => e = .returned (.bool true) ∧ Nest B w' p ⟨nsEls s k i, (k, false) :: r⟩ ∧ Below B w w' := by
  obtain ⟨bo, bc, oo, oc, hp, hB, hb, ho, h1, h2, h3, h4, n1, n2, n3, h6, h5⟩ := hN.shape
  rw [h0] at hp ho h5 h3
  obtain ⟨g, rfl⟩ := h5 (by simp)
  obtain ⟨gb, rfl⟩ := h6 (by omega)
  obtain ⟨t1, t2, t3⟩ := top_cells ho
  have n1' := n1 _ rfl
  have n2' := n2 _ rfl
  have n3' := n3 _ _ rfl rfl
  obtain ⟨m, hm⟩ : ∃ m, m = r.length := ⟨_, rfl⟩
  obtain ⟨bn, hbn⟩ : ∃ bn, bn = s.bl.length := ⟨_, rfl⟩
  simp only [List.length_cons, ← hm, ← hbn] at hp h3 t1 t2 t3 hb ho h1 hk
  have c0 := hp.c0
  have c1 := hp.c1
  have hm1 : (m : Int) + 1 - 1 = m := by omega
  have hm2 : ((m : Int) < 0) = False := by simp
  obtain ⟨b1, b2, b3, b4, b5⟩ := blk_cells hb (by rw [← hbn]; exact hk)
  have HM := hid hm
  have HBN := hid hbn
  have HP := hid hp
  have HBL := hid hb
  have HO := hid ho
  clear hp hN hb ho n1 n2 n3 hm h5 h6 hbn b1 b3 b5
  simp only at n1' n2' n3'
  go_enter Try.func36, Try.ntmps36
  go_wp2_with fail
  have hs := HO.out.set m 1 (.bool false) (by simp [HM.out]) (by decide)
  have HO1 : Hid (OwnC 77 2 B (w.setCell ⟨g, m * 2 + 1, none⟩ (.bool false)) (.slice (some ⟨g, 0, none⟩) (m + 1) oc) (((k, false) :: r).reverse.map opC)) := hid (by
    have e := top_set (k := k) (f := true) (r := r) false
    rw [← HM.out] at e
    rw [e] at hs
    exact hs)
  have HP1 := hid (HP.out.grown (grown_set w ⟨g, m * 2 + 1, none⟩ (.bool false)) (fun e => n2' (by simpa using e)))
  have HB1 := hid (HBL.out.aside (p := ⟨g, m * 2 + 1, none⟩) (fun b hb => by simp [Value.ownBlock] at hb; simp only; omega) (.bool false))
  have HL1 := hid (Below.setCell (Below.refl B w) (p := ⟨g, m * 2 + 1, none⟩) (HO.out.lt g rfl).1 (.bool false))
  clear hs c0 c1 b2 b4 t1 t2 t3 HP HBL HO
  generalize w.setCell ⟨g, m * 2 + 1, none⟩ (.bool false) = w1 at HO1 HP1 HB1 HL1 ⊢
  obtain ⟨t1, t2, t3⟩ := top_cells HO1.out
  rw [← HM.out] at t1 t2 t3
  obtain ⟨b1, b2, b3, b4, b5⟩ := blk_cells HB1.out (by rw [← HBN.out]; exact hk)
  have c0 := HP1.out.c0
  have c1 := HP1.out.c1
  clear b1 b3 b5 t2 t3
  go_region
  all_goals
    have hs := HB1.out.set k 1 (.int .i64 i) (by simp [← HBN.out]; exact hk) (by decide)
    rw [blk_els i (by rw [← HBN.out]; exact hk)] at hs
    have HB2 := hid hs
    have HP2 := hid (HP1.out.grown (grown_set w1 ⟨gb, k * 3 + 1, none⟩ (.int .i64 i)) (fun e => n1' (by simpa using e)))
    have HO2 := hid (HO1.out.aside (p := ⟨gb, k * 3 + 1, none⟩) (fun b hb => by simp [Value.ownBlock] at hb; simp only; omega) (.int .i64 i))
    have HL2 := hid (Below.setCell HL1.out (p := ⟨gb, k * 3 + 1, none⟩) (HB1.out.lt gb rfl).1 (.int .i64 i))
    clear hs
    go_wp2_with fail
    go_ret
    refine ⟨rfl, ⟨_, _, HP2.out.drew, hB, ?_, HO2.out.drew, ?_, ?_, ?_⟩, HL2.out.drew⟩
    · exact HB2.out.drew
    · intro x hx; simp [Value.ownBlock] at hx; omega
    · intro x hx; simp [Value.ownBlock] at hx; omega
    · intro x hx; simp [Value.ownBlock] at hx ⊢; omega

set_option maxHeartbeats 1000000 in
theorem end_to (B p : Nat) (s : Ns) (k : Nat) (f : Bool) (r : List (Nat × Bool)) (i : Nat) (w : World) (hN : Nest B w p s) (h0 : s.op = (k, f) :: r) (hk : k < s.bl.length) :
    Calls Try.prog 37 #[.pointer (some ⟨p, 0, none⟩), .int .i64 i] w fun e w' => e = .returned (.bool true) ∧ Nest B w' p ⟨nsEnd s k i, r⟩ ∧ Below B w w' := by
  obtain ⟨bo, bc, oo, oc, hp, hB, hb, ho, h1, h2, h3, h4, n1, n2, n3, h6, h5⟩ := hN.shape
  rw [h0] at hp ho h5 h3
  obtain ⟨g, rfl⟩ := h5 (by simp)
  obtain ⟨gb, rfl⟩ := h6 (by omega)
  obtain ⟨t1, _, _⟩ := top_cells ho
  have n1' := n1 _ rfl
  have n2' := n2 _ rfl
  have n3' := n3 _ _ rfl rfl
  obtain ⟨m, hm⟩ : ∃ m, m = r.length := ⟨_, rfl⟩
  obtain ⟨bn, hbn⟩ : ∃ bn, bn = s.bl.length := ⟨_, rfl⟩
  simp only [List.length_cons, ← hm, ← hbn] at hp h3 t1 hb ho h1 hk
  have c0 := hp.c0
  have c1 := hp.c1
  have hm1 : (m : Int) + 1 - 1 = m := by omega
  have hm2 : ((m : Int) < 0) = False := by simp
  obtain ⟨b1, b2, b3, b4, b5⟩ := blk_cells hb (by rw [← hbn]; exact hk)
  have HM := hid hm
  have HBN := hid hbn
  have HP := hid hp
  have HBL := hid hb
  have HO := hid ho
  clear hp hN hb ho n1 n2 n3 hm h5 h6 hbn b1 b2 b4
  simp only at n1' n2' n3'
  go_enter Try.func37, Try.ntmps37
  go_wp2_with fail
  go_region
  all_goals
    have hs := HBL.out.set k 2 (.int .i64 i) (by simp [← HBN.out]; exact hk) (by decide)
    rw [blk_end i (by rw [← HBN.out]; exact hk) (by omega)] at hs
    have HB2 := hid hs
    have HP2 := hid (HP.out.grown (grown_set w ⟨gb, k * 3 + 2, none⟩ (.int .i64 i)) (fun e => n1' (by simpa using e)))
    have HO2 := hid (HO.out.aside (p := ⟨gb, k * 3 + 2, none⟩) (fun b hb => by simp [Value.ownBlock] at hb; simp only; omega) (.int .i64 i))
    have HL2 := hid (Below.setCell (Below.refl B w) (p := ⟨gb, k * 3 + 2, none⟩) (HBL.out.lt gb rfl).1 (.int .i64 i))
    have c0' := HP2.out.c0
    have c1' := HP2.out.c1
    have f1' := HP2.out.f1
    clear hs c0 c1 t1 b3 b5 HBL HP HO
    generalize w.setCell ⟨gb, k * 3 + 2, none⟩ (.int .i64 i) = w2 at HB2 HP2 HO2 HL2 c0' c1' f1' ⊢
    go_wp2_with fail
    go_ret
    have hT := HO2.out.take m (by simp [HM.out])
    have hr : (((k, f) :: r).reverse.map opC).take m = r.reverse.map opC := by
      rw [List.reverse_cons, List.map_append, HM.out, List.take_left' (by simp)]
    rw [hr] at hT
    first
      | refine ⟨rfl, ⟨_, _, (HP2.out.drew).set1 _, hB, ?_, ?_, ?_, ?_, ?_⟩, Below.setCell HL2.out.drew (p := ⟨p, 1, none⟩) hB _⟩
        · exact HB2.out.drew.aside (p := ⟨p, 1, none⟩) (fun b hb => by simp [Value.ownBlock] at hb; simp only; omega) _
        · exact hT.drew.aside (p := ⟨p, 1, none⟩) (fun b hb => by simp [Value.ownBlock] at hb; simp only; omega) _
        · intro x hx; simp [Value.ownBlock] at hx; omega
        · intro x hx; simp [Value.ownBlock] at hx; omega
        · intro x hx; simp [Value.ownBlock] at hx ⊢; omega
      | refine ⟨rfl, ⟨_, _, ((HP2.out).set1 _).drew, hB, ?_, ?_, ?_, ?_, ?_⟩, (Below.setCell HL2.out (p := ⟨p, 1, none⟩) hB _).drew⟩
        · exact (HB2.out.aside (p := ⟨p, 1, none⟩) (fun b hb => by simp [Value.ownBlock] at hb; simp only; omega) _).drew
        · exact (hT.aside (p := ⟨p, 1, none⟩) (fun b hb => by simp [Value.ownBlock] at hb; simp only; omega) _).drew
        · intro x hx; simp [Value.ownBlock] at hx; omega
        · intro x hx; simp [Value.ownBlock] at hx; omega
        · intro x hx; simp [Value.ownBlock] at hx ⊢; omega
theorem begins_to (x : Int) (t : Bool) (h : begins x = t) (w : World) : Calls Try.prog 34 #[.int .i64 x] w fun e w' => e = .returned (.bool t) ∧ w = w' := by
  subst h
  unfold begins
  cases h2 : (x == 2) <;> cases h3 : (x == 3) <;> cases h4 : (x == 4)
  all_goals
    go_enter Try.func34, Try.ntmps34
    go_wp2_with fail
    go_ret
    exact ⟨rfl, rfl⟩

/-- What take leaves. -/
def Took (B p : Nat) (o : Option Ns) (w : World) (e : Ending) (w' : World) : Prop :=
  e = .returned (.bool o.isSome) ∧ (∀ s, o = some s → Nest B w' p s) ∧ Below B w w'

theorem take_to (B p : Nat) (s : Ns) (x : Int) (i : Nat) (w : World) (hN : Nest B w p s) (hd : s.op.length ≤ 40) (hbl : s.bl.length ≤ 400) (htop : ∀ q ∈ s.op, q.1 < s.bl.length) :
    Calls Try.prog 26 #[.pointer (some ⟨p, 0, none⟩), .int .i64 x, .int .i64 i] w (Took B p (nsStep i x s) w) := by
  have HN := hid hN
  have HT := hid htop
  have HD := hid hd
  clear hN htop hd
  obtain ⟨o, ho⟩ : ∃ o, o = nsStep i x s := ⟨_, rfl⟩
  rw [← ho]
  have HS := hid ho
  clear ho
  by_cases hb : begins x = true
  · have HBG := hid hb
    clear hb
    by_cases h40 : s.op.length = 40
    · have ho : o = none := by rw [HS.out]; unfold nsStep; rw [if_pos HBG.out, if_pos h40]
      have H40 := hid h40
      clear h40 HD
      go_enter Try.func26, Try.ntmps26
      go_wp2_with fail
      refine (begins_to x true HBG.out w).mono ?_
      rintro e w' ⟨rfl, rfl⟩
      go_wp2_with fail
      refine (begin_no B p s x i w HN.out H40.out).mono ?_
      rintro e w' ⟨rfl, rfl⟩
      go_wp2_with fail
      go_ret
      subst ho
      exact ⟨rfl, fun _ h => (by cases h), Below.refl _ _⟩
    · have ho : o = some ⟨s.bl ++ [⟨i, -1, -1⟩], (s.bl.length, x == 4) :: s.op⟩ := by rw [HS.out]; unfold nsStep; rw [if_pos HBG.out, if_neg h40]
      have h41 : s.op.length < 40 := by have := HD.out; omega
      have HO := hid ho
      have H40 := hid h41
      have HBL := hid hbl
      clear h40 HD ho h41 hbl
      go_enter Try.func26, Try.ntmps26
      go_wp2_with fail
      refine (begins_to x true HBG.out w).mono ?_
      rintro e w' ⟨rfl, rfl⟩
      go_wp2_with fail
      refine (begin_to B p s x i w HN.out H40.out HBL.out).mono ?_
      rintro e w' ⟨rfl, hn, hb⟩
      have HN2 := hid hn
      have HB2 := hid hb
      clear hn hb
      go_wp2_with fail
      go_ret
      rw [HO.out]
      exact ⟨rfl, fun _ h => (by cases h; exact HN2.out), HB2.out⟩
  · have hb' : begins x = false := by simpa using hb
    have HBG := hid hb'
    clear hb hb'
    by_cases h5 : x = 5
    · subst h5
      have hs : nsStep i 5 s = (match s.op with | (k, true) :: r => some ⟨nsEls s k i, (k, false) :: r⟩ | _ => none) := by unfold nsStep; rw [if_neg (by decide), if_pos rfl]; rfl
      rw [hs] at HS
      obtain ⟨op, hop⟩ : ∃ op, s.op = op := ⟨_, rfl⟩
      rw [hop] at HS
      have HOP := hid hop
      clear hs hop
      match op, HS, HOP with
      | [], HS, HOP =>
        go_enter Try.func26, Try.ntmps26
        go_wp2_with fail
        refine (begins_to 5 false HBG.out w).mono ?_
        rintro e w' ⟨rfl, rfl⟩
        go_wp2_with fail
        refine (part_none B p s i w HN.out HOP.out).mono ?_
        rintro e w' ⟨rfl, rfl⟩
        go_wp2_with fail
        go_ret
        rw [HS.out]
        exact ⟨rfl, fun _ h => (by cases h), Below.refl _ _⟩
      | (k, false) :: r, HS, HOP =>
        go_enter Try.func26, Try.ntmps26
        go_wp2_with fail
        refine (begins_to 5 false HBG.out w).mono ?_
        rintro e w' ⟨rfl, rfl⟩
        go_wp2_with fail
        refine (part_false B p s k r i w HN.out HOP.out).mono ?_
        rintro e w' ⟨rfl, rfl⟩
        go_wp2_with fail
        go_ret
        rw [HS.out]
        exact ⟨rfl, fun _ h => (by cases h), Below.refl _ _⟩
      | (k, true) :: r, HS, HOP =>
        have hk : k < s.bl.length := HT.out (k, true) (by rw [HOP.out]; simp)
        have HK := hid hk
        clear hk
        go_enter Try.func26, Try.ntmps26
        go_wp2_with fail
        refine (begins_to 5 false HBG.out w).mono ?_
        rintro e w' ⟨rfl, rfl⟩
        go_wp2_with fail
        refine (part_to B p s k r i w HN.out HOP.out HK.out).mono ?_
        rintro e w' ⟨rfl, hn, hb⟩
        have HN2 := hid hn
        have HB2 := hid hb
        clear hn hb
        go_wp2_with fail
        go_ret
        rw [HS.out]
        exact ⟨rfl, fun _ h => (by cases h; exact HN2.out), HB2.out⟩
    · by_cases h11 : x = 11
      · subst h11
        have hs : nsStep i 11 s = (match s.op with | (k, _) :: r => some ⟨nsEnd s k i, r⟩ | [] => none) := by unfold nsStep; rw [if_neg (by decide), if_neg (by decide), if_pos rfl]; rfl
        rw [hs] at HS
        obtain ⟨op, hop⟩ : ∃ op, s.op = op := ⟨_, rfl⟩
        rw [hop] at HS
        have HOP := hid hop
        clear hs hop h5
        match op, HS, HOP with
        | [], HS, HOP =>
          go_enter Try.func26, Try.ntmps26
          go_wp2_with fail
          refine (begins_to 11 false HBG.out w).mono ?_
          rintro e w' ⟨rfl, rfl⟩
          go_wp2_with fail
          refine (end_none B p s i w HN.out HOP.out).mono ?_
          rintro e w' ⟨rfl, rfl⟩
          go_wp2_with fail
          go_ret
          rw [HS.out]
          exact ⟨rfl, fun _ h => (by cases h), Below.refl _ _⟩
        | (k, f) :: r, HS, HOP =>
          have hk : k < s.bl.length := HT.out (k, f) (by rw [HOP.out]; simp)
          have HK := hid hk
          clear hk
          go_enter Try.func26, Try.ntmps26
          go_wp2_with fail
          refine (begins_to 11 false HBG.out w).mono ?_
          rintro e w' ⟨rfl, rfl⟩
          go_wp2_with fail
          refine (end_to B p s k f r i w HN.out HOP.out HK.out).mono ?_
          rintro e w' ⟨rfl, hn, hb⟩
          have HN2 := hid hn
          have HB2 := hid hb
          clear hn hb
          go_wp2_with fail
          go_ret
          rw [HS.out]
          exact ⟨rfl, fun _ h => (by cases h; exact HN2.out), HB2.out⟩
      · have ho : o = some s := by rw [HS.out]; unfold nsStep; rw [if_neg (by rw [HBG.out]; simp), if_neg h5, if_neg h11]
        have HO := hid ho
        have a5 : (x == 5) = false := by simp [h5]
        have a11 : (x == 11) = false := by simp [h11]
        clear ho HS h5 h11
        go_enter Try.func26, Try.ntmps26
        go_wp2_with fail
        refine (begins_to x false HBG.out w).mono ?_
        rintro e w' ⟨rfl, rfl⟩
        go_wp2_with fail
        go_ret
        rw [HO.out]
        exact ⟨rfl, fun _ h => (by cases h; exact HN.out), Below.refl _ _⟩
end Go.Proofs.Ytfambbpggodlkaa
