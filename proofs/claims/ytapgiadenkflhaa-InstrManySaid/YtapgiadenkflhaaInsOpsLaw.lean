/- InstrOps: the walk. -/
import Derived.Test.YtapgiadenkflhaaInsTell
namespace Go.Proofs.Ytapgiadenkflhaa
open Go.RowKit

/-- 'append(v, src...)' behind a guard that says yes. -/
theorem wpList_append_gd {P : Program} {w : World} {ops : Array Oper} {rest : List Oper} {o : Oper} {a : Act} {Q : Exit → Act → World → Prop} (hw : Region.wanted o (yielded ops a.tmps) = true) (s x : Operand) (t : TypeId)
    (ho : o.op = .call { callee := .builtin .append, args := #[s, x], argTypes := #[t, t] })
    (E : TypeId) (k : IntKind) (base : Nat) (bytes : Nat) (ht : P.underlying t = some (.slice E)) (hi : (P.info? E).map (fun i => (i.zero, i.size, i.bytes)) = some (some (.int k 0), 1, bytes))
    (v : Value) (xs : List Int) (hs : a.eval s = v) (hown : Own E k base w v xs)
    (ao : Option Addr) (n cap : Nat) (ys : List Int) (hx : a.eval x = .slice ao n cap) (hr : Rd k w ao n cap ys)
    (h63 : xs.length + n ≤ 4611686018427387904) (hbytes : (xs.length + n) * bytes ≤ 140737488355328) (hbase : base ≤ w.heap.size)
    (h : ∀ v' w', Own E k base w' v' (xs ++ ys) → Below base w w' → wpList P ops Q rest (a.put o.dst v') w') : wpList P ops Q (o :: rest) a w := by
  obtain ⟨i, hi0, hz, hsz, hby⟩ := info_parts hi
  refine wpList_step fun K hK => ?_
  rw [if_pos hw]
  cases ao with
  | none =>
    have hc := hr.nil rfl
    have hn : n = 0 := by have := hr.le; omega
    have hy : ys = [] := List.eq_nil_of_length_eq_zero (by rw [hr.len]; exact hn)
    subst hc hn hy
    have hrun := run_append_owned_none (P := P) (w := w) base t o.type E i 1 ht hi0 v xs.length _ hown.row
    unfold Oper.wp
    simp [execOp, ho, resolve, invoke, builtin, hs, hx, hrun, Result.andThen]
    exact hK _ _ (h v w (by simpa using hown) (Below.refl _ _))
  | some ad =>
    refine wp_append_own w s x t ho base E i (.int k 0) 1 bytes ht hi0 hz hsz hby rfl (by decide) v xs.length _ hs hown.row ad n cap (ys.map (Value.int k)) hx (by simp [hr.len]) (hr.news rfl) (ints_oneCell _ _) (by unfold maxLen; omega) hbytes hbase ?_
    intro v' w' h1 h2 _
    refine hK _ _ (h v' w' ⟨?_, ?_⟩ ((Below.refl _ _).grown h2 hbase (fun b hb => (hown.lt b hb).1)))
    · rw [List.map_append]
      simpa [hr.len] using h1
    · intro z hz'
      rcases List.mem_append.1 hz' with hz' | hz'
      · exact hown.wf z hz'
      · exact hr.wf z hz'
theorem sh_out {op : Int} (h : op < 0 ∨ 255 < op) : sh op = 0 := by
  by_cases h0 : sh op = 0
  · exact h0
  · have := sh_byte h0; omega
theorem may_out {op a b : Int} {l : List Int} (h : sh op = 0) : mayI op a b l = false := by simp [mayI, h, mayAS]
theorem getI_form {op : Int} {r : List Int} (h : sh op = 0) : getI (op :: r) = (⟨0, 0, 0, []⟩, 0, 1) := by
  have h1 : rOne (op :: r) ⟨0, 0⟩ = (op, ⟨1, 0⟩) := rOne_enc (xs := op :: r) (i := 0) (x := op) (rest := r) rfl
  unfold getI rIns
  rw [h1]
  simp only
  unfold rTail
  rw [h]
  simp [need]

set_option maxHeartbeats 1000000 in
theorem instrOps_walk (op : Int) (ao : Option Addr) (n cap : Nat) (xs : List Int) (w : World) (hr : Rd .u8 w ao n cap xs) :
    Calls Try.prog 5 #[.int .i64 op, .slice ao n cap] w fun e w' => e = .returned (.bool true) ∧ Below w.heap.size w w' := by
  have hcap := hr.cap63
  have hle := hr.le
  have Hr := hid (hr.short 20)
  have hm20 : min n 20 ≤ 20 := Nat.min_le_right _ _
  clear hr
  by_cases ho : op < 0 ∨ 255 < op
  · have Hm := hid (may_out (a := 0) (b := 0) (l := []) (sh_out ho))
    have Ho := hid ho
    rcases ho with h | h
    all_goals
      go_enter Try.func5, Try.ntmps5
      go_wp2_with fail
      refine (begun_to w).mono ?_
      rintro e w1 ⟨rfl, hb⟩
      have HB1 := hid hb
      clear hb
      go_wp2_with fail
      refine (short_any ao n cap 20 _ hle hcap (by decide)).mono ?_
      rintro e w2 ⟨rfl, rfl⟩
      go_wp2_with fail
      refine (may_to op 0 0 none 0 0 [] false Hm.out _ (Rd.empty _ _)).mono ?_
      rintro e w2 ⟨rfl, hb⟩
      have HB2 := hid (Bl.step HB1.out hb)
      clear hb
      go_wp2_with fail
      go_ret
      exact ⟨rfl, HB2.out⟩
  · have h0 : 0 ≤ op := by omega
    have h1 : op ≤ 255 := by omega
    have hwo : IntKind.u8.wrap op = op := by rw [IntKind.wrap_u8]; omega
    have Hwo := hid hwo
    obtain ⟨ys, hys⟩ : ∃ ys, ys = xs.take (min n 20) := ⟨_, rfl⟩
    obtain ⟨m, hm⟩ : ∃ m, m = min n 20 := ⟨_, rfl⟩
    rw [← hys, ← hm] at Hr
    rw [← hm] at hm20
    obtain ⟨s, hs⟩ : ∃ s, sh op = s := ⟨_, rfl⟩
    obtain ⟨I, k, er, hg⟩ : ∃ I k er, getI (op :: ys) = (I, k, er) := ⟨_, _, _, rfl⟩
    obtain ⟨J, ja, jb, jl⟩ := I
    have Her : Hid (s = 0 → er = 1) := hid (fun h => by
      rw [h] at hs
      rw [getI_form hs] at hg
      cases hg
      rfl)
    have HG := hid hg
    have HS := hid hs
    have HM := hid hm
    clear hg hs ho hwo hys hm
    go_enter Try.func5, Try.ntmps5
    go_wp2_with fail
    refine (begun_to w).mono ?_
    rintro e w1 ⟨rfl, hb⟩
    have HB1 := hid hb
    have Hr1 := hid (Hr.out.below hb)
    clear hb
    go_wp2_with fail
    refine (short_any ao n cap 20 _ hle hcap (by decide)).mono ?_
    rintro e w2 ⟨rfl, rfl⟩
    rw [← HM.out]
    have hown0 := own_built w1 .u8 5 [op] (by unfold maxLen; simp) (fun z hz => by simp at hz; subst hz; exact WalkArith.wf_u8 ⟨h0, h1⟩)
    have HO0 : Hid (Own 5 .u8 w1.heap.size (w1.alloc (.cells #[.int .u8 op] 5)) (.slice (some ⟨w1.heap.size, 0, none⟩) 1 1) [op]) := hid hown0
    clear hown0
    go_wp2_with (at_builtin; refine wpList_append_rd rfl (.tmp 27) (.tmp 28) 25 rfl 5 .u8 w1.heap.size 1 Try.underlying25 infoU8 _ [op] rfl HO0.out ao m cap ys rfl (Hr1.out.below (Bl.alloc (Bl.refl _) _)) (by simp; omega) (by simp; omega) (by simp) ?_; intro v2 w2 o2 b2 _; obtain ⟨ao2, cap2, rfl, hr2⟩ := o2.rd; have HR2 := hid hr2; have HB2 := hid ((Below.alloc (Below.refl w1.heap.size w1) (Nat.le_refl _) (.cells #[.int .u8 op] 5)).trans b2); clear o2 hr2 b2)
    refine (get_to ao2 _ cap2 _ _ HR2.out _ k er HG.out).mono ?_
    rintro e w3 ⟨lo, ln, lc, rfl, _, hb⟩
    have HB3 := hid (Bl.step HB1.out (Bl.step (Bl.step HB2.out hb) (Bl.alloc (Bl.refl w3) (.cells #[.int .i64 J, .int .i64 ja, .int .i64 jb, .slice lo ln lc] 24))))
    have Hr3 := hid (((Hr1.out.below HB2.out).below hb).below (Bl.alloc (Bl.refl w3) (.cells #[.int .i64 J, .int .i64 ja, .int .i64 jb, .slice lo ln lc] 24)))
    clear hb HR2 HB2
    simp only
    obtain ⟨w4, hw4⟩ : ∃ w4, w4 = w3.alloc (.cells #[.int .i64 J, .int .i64 ja, .int .i64 jb, .slice lo ln lc] 24) := ⟨_, rfl⟩
    rw [← hw4] at HB3 Hr3
    have HW4 := hid hw4
    have HO4 : Hid (Own 5 .u8 w4.heap.size (w4.alloc (.cells #[.int .u8 op] 5)) (.slice (some ⟨w4.heap.size, 0, none⟩) 1 1) [op]) := hid (own_built w4 .u8 5 [op] (by unfold maxLen; simp) (fun z hz => by simp at hz; subst hz; exact WalkArith.wf_u8 ⟨h0, h1⟩))
    clear hw4
    go_wp2_with fail
    refine (form_to op s HS.out _).mono ?_
    rintro e w5 ⟨rfl, rfl⟩
    rw [← HW4.out]
    by_cases hs0 : s = 0
    · have he := Her.out hs0
      subst he hs0
      go_wp2_with (at_builtin; refine wpList_append_gd (by rfl) (.tmp 44) (.tmp 45) 25 rfl 5 .u8 w4.heap.size 1 Try.underlying25 infoU8 _ [op] rfl HO4.out ao m cap ys rfl (Hr3.out.below (Bl.alloc (Bl.refl _) _)) (by simp; omega) (by simp; omega) (by simp) ?_; intro v2 w5 o2 b2; obtain ⟨ao5, cap5, rfl, hr5⟩ := o2.rd; have HR5 := hid hr5; have HB5 := hid ((Below.alloc (Below.refl w4.heap.size w4) (Nat.le_refl _) (.cells #[.int .u8 op] 5)).trans b2); clear o2 hr5 b2)
      refine (tells_to _ _ _ _ _ HR5.out).mono ?_
      rintro e w6 ⟨rfl, hb⟩
      have HB6 := hid (Bl.step HB3.out (Bl.step HB5.out hb))
      clear hb
      go_wp2_with fail
      go_ret
      exact ⟨rfl, HB6.out⟩
    · have hs1 : (s != 0) = true := by simp [hs0]
      go_wp2_with (at_builtin; refine wpList_append_gd (by rfl) (.tmp 44) (.tmp 45) 25 rfl 5 .u8 w4.heap.size 1 Try.underlying25 infoU8 _ [op] rfl HO4.out ao m cap ys rfl (Hr3.out.below (Bl.alloc (Bl.refl _) _)) (by simp; omega) (by simp; omega) (by simp) ?_; intro v2 w5 o2 b2; obtain ⟨ao5, cap5, rfl, hr5⟩ := o2.rd; have HR5 := hid hr5; have HB5 := hid ((Below.alloc (Below.refl w4.heap.size w4) (Nat.le_refl _) (.cells #[.int .u8 op] 5)).trans b2); clear o2 hr5 b2)
      refine (tells_to _ _ _ _ _ HR5.out).mono ?_
      rintro e w6 ⟨rfl, hb⟩
      have HB6 := hid (Bl.step HB3.out (Bl.step HB5.out hb))
      clear hb
      go_wp2_with fail
      go_ret
      exact ⟨rfl, HB6.out⟩
end Go.Proofs.Ytapgiadenkflhaa
