/- package state: may of labels, frames, states. -/
import Derived.Test.YtnbegmlbkjjggaaSfA
namespace Go.Proofs.Ytnbegmlbkjjggaa
open Go.RowKit
set_option linter.unusedVariables false

theorem en_iMay : ∀ args w, (callFunc 24 args).run Try.prog w = .ok (.enter 24 args) w := enters_of Try.func24 (by kernel_rfl) rfl
theorem en_mayLabel : ∀ args w, (callFunc 47 args).run Try.prog w = .ok (.enter 47 args) w := enters_of Try.func47 (by kernel_rfl) rfl
theorem en_mayFrame : ∀ args w, (callFunc 26 args).run Try.prog w = .ok (.enter 26 args) w := enters_of Try.func26 (by kernel_rfl) rfl

theorem mayLabel_to (x y : Int) (w : World) : Calls Try.prog 47 #[.agg #[.int .i64 x, .int .i64 y]] w fun e w' => e = .returned (.bool (okL (x, y))) ∧ Below w.heap.size w w' := by
  have hm0 := mayNumber_to x
  have hm1 := mayNumber_to y
  cases n7 : okN x
  · rw [n7] at hm0
    go_enter Try.func47, Try.ntmps47
    go_wp2_with (go_at_call 44; (with_reducible refine (hm0 _).mono ?_); rintro e w9 ⟨rfl, rfl⟩)
    go_ret
    exact ⟨rb (by simp [okL, n7]), Bl.alloc (Bl.refl _) _⟩
  · rw [n7] at hm0
    go_enter Try.func47, Try.ntmps47
    go_wp2_with (go_at_call 44; (first | (with_reducible refine (hm0 _).mono ?_) | (with_reducible refine (hm1 _).mono ?_)); rintro e w9 ⟨rfl, rfl⟩)
    go_ret
    exact ⟨rb (by simp [okL, n7]), Bl.alloc (Bl.refl _) _⟩
theorem allVals_to (ao : Option Addr) (n cap : Nat) (xs : List (Int × Int)) (t : Bool) (ht : xs.all okV = t) (w : World) (h : RdG 2 PaR w ao n cap xs) :
    Calls Try.prog 23 #[.slice ao n cap, .func (.func 24) #[] #[]] w fun e w' => e = .returned (.bool t) ∧ Below w.heap.size w w' := by
  subst ht
  exact allVa_to _ okV ao n cap xs w (RdG.parx h) en_iMay fun w cs x _ hR => by
    obtain ⟨rfl, _⟩ := hR.now
    exact imay_any x.1 x.2 w
theorem allLabs_to (ao : Option Addr) (n cap : Nat) (xs : List (Int × Int)) (t : Bool) (ht : xs.all okL = t) (w : World) (h : RdG 2 PaR w ao n cap xs) :
    Calls Try.prog 46 #[.slice ao n cap, .func (.func 47) #[] #[]] w fun e w' => e = .returned (.bool t) ∧ Below w.heap.size w w' := by
  subst ht
  exact allLa_to _ okL ao n cap xs w (RdG.parx h) en_mayLabel fun w cs x _ hR => by
    obtain ⟨rfl, _⟩ := hR.now
    exact mayLabel_to x.1 x.2 w

set_option maxRecDepth 100000 in
set_option maxHeartbeats 2000000 in
theorem mayFrame_to (f : Fm) (t : Bool) (ht : mayF f = t) (cs : List Value) (w : World) (h : FrR w cs f) : Calls Try.prog 26 #[.agg cs.toArray] w fun e w' => e = .returned (.bool t) ∧ Below w.heap.size w w' := by
  obtain ⟨a1, n1, k1, a2, n2, k2, rfl, hr1, hr2, hw1, hw2, hw3⟩ := h
  obtain ⟨fn, pc, ls, base, lb⟩ := f
  simp only at hr1 hr2 hw1 hw2 hw3
  have e1 : mayF ⟨fn, pc, ls, base, lb⟩ = (decide (n1 ≤ 32) && decide (n2 ≤ 40) && ls.all okV && okN fn && okN pc && okN base && lb.all okL) := by rw [← hr1.len, ← hr2.len]; rfl
  rw [e1] at ht
  have HT := hid ht
  have h63 := hr1.cap63.1
  have h63' := hr2.cap63.1
  obtain ⟨p, hp⟩ : ∃ p, w.heap.size = p := ⟨_, rfl⟩
  obtain ⟨w0, hw0⟩ : ∃ w0, (w.alloc (.cells #[.int .i64 fn, .int .i64 pc, .slice a1 n1 k1, .int .i64 base, .slice a2 n2 k2] 42)) = w0 := ⟨_, rfl⟩
  have hb0 : Below w.heap.size w w0 := by rw [← hw0]; exact Bl.alloc (Bl.refl w) _
  have hc0 : Cel w0 p [.int .i64 fn, .int .i64 pc, .slice a1 n1 k1, .int .i64 base, .slice a2 n2 k2] := by rw [← hw0, ← hp]; exact Cel.new w _ _
  have hps : p < w0.heap.size := by rw [← hw0, ← hp]; simp
  have HR1 := hid (hr1.below2 hb0)
  have HR2 := hid (hr2.below2 hb0)
  have HC := hid hc0
  have HB0 := hid hb0
  have HP := hid hp
  have HW0 := hid hw0
  have g0 := HC.out.cell 0 _ rfl
  have g1 := HC.out.cell 1 _ rfl
  have g2 := HC.out.cell 2 _ rfl
  have g3 := HC.out.cell 3 _ rfl
  have g4 := HC.out.cell 4 _ rfl
  clear ht e1 hr1 hr2 hb0 hc0 hp hw0 hw1 hw2 hw3
  have hm0 := mayNumber_to fn
  have hm1 := mayNumber_to pc
  have hm2 := mayNumber_to base
  by_cases c1 : n1 ≤ 32
  · have c1i : decide ((n1 : Int) ≤ 32) = true := by simp; omega
    by_cases c2 : n2 ≤ 40
    · have c2i : decide ((n2 : Int) ≤ 40) = true := by simp; omega
      have hc2 : mayF ⟨fn, pc, ls, base, lb⟩ = mayF ⟨fn, pc, ls, base, lb⟩ := rfl
      cases n4 : okN fn
      · rw [n4] at hm0
        go_enter Try.func26, Try.ntmps26
        go_wp2_with fail
        rw [HW0.out, HP.out]
        go_wp2_with (go_at_call 44; (first | (with_reducible refine (hm0 _).mono ?_) | (with_reducible refine (hm1 _).mono ?_) | (with_reducible refine (hm2 _).mono ?_)); rintro e w9 ⟨rfl, rfl⟩)
        go_ret
        exact ⟨rb (by rw [← HT.out]; simp [n4]), HB0.out⟩
      rw [n4] at hm0
      cases n5 : okN pc
      · rw [n5] at hm1
        go_enter Try.func26, Try.ntmps26
        go_wp2_with fail
        rw [HW0.out, HP.out]
        go_wp2_with (go_at_call 44; (first | (with_reducible refine (hm0 _).mono ?_) | (with_reducible refine (hm1 _).mono ?_) | (with_reducible refine (hm2 _).mono ?_)); rintro e w9 ⟨rfl, rfl⟩)
        go_ret
        exact ⟨rb (by rw [← HT.out]; simp [n5]), HB0.out⟩
      rw [n5] at hm1
      cases n6 : okN base
      · rw [n6] at hm2
        go_enter Try.func26, Try.ntmps26
        go_wp2_with fail
        rw [HW0.out, HP.out]
        go_wp2_with (go_at_call 44; (first | (with_reducible refine (hm0 _).mono ?_) | (with_reducible refine (hm1 _).mono ?_) | (with_reducible refine (hm2 _).mono ?_)); rintro e w9 ⟨rfl, rfl⟩)
        go_ret
        exact ⟨rb (by rw [← HT.out]; simp [n6]), HB0.out⟩
      rw [n6] at hm2
      obtain ⟨t1, ht1⟩ : ∃ t1, ls.all okV = t1 := ⟨_, rfl⟩
      have HA := hid (allVals_to a1 n1 k1 ls t1 ht1 w0 HR1.out)
      have HT1 := hid ht1
      clear ht1
      cases t1 with
      | false =>
        go_enter Try.func26, Try.ntmps26
        go_wp2_with fail
        rw [HW0.out, HP.out]
        go_wp2_with (first | (go_at_call 44; (first | (with_reducible refine (hm0 _).mono ?_) | (with_reducible refine (hm1 _).mono ?_) | (with_reducible refine (hm2 _).mono ?_)); rintro e w9 ⟨rfl, rfl⟩) | (go_at_call 23; refine HA.out.mono ?_; rintro e w2 ⟨rfl, hb2⟩; have hb2 := hid hb2))
        go_ret
        exact ⟨rb (by rw [← HT.out, HT1.out]; simp), HB0.out.trans (hb2.out.mono HB0.out.size)⟩
      | true =>
        obtain ⟨t2, ht2⟩ : ∃ t2, lb.all okL = t2 := ⟨_, rfl⟩
        have HA2 : Hid (∀ w2, Below w0.heap.size w0 w2 → Calls Try.prog 46 #[.slice a2 n2 k2, .func (.func 47) #[] #[]] w2 fun e w' => e = .returned (.bool t2) ∧ Below w2.heap.size w2 w') := hid fun w2 hb => allLabs_to a2 n2 k2 lb t2 ht2 w2 (HR2.out.below2 hb)
        have HT2 := hid ht2
        clear ht2
        go_enter Try.func26, Try.ntmps26
        go_wp2_with fail
        rw [HW0.out, HP.out]
        go_wp2_with (first | (go_at_call 44; (first | (with_reducible refine (hm0 _).mono ?_) | (with_reducible refine (hm1 _).mono ?_) | (with_reducible refine (hm2 _).mono ?_)); rintro e w9 ⟨rfl, rfl⟩) | (go_at_call 23; refine HA.out.mono ?_; rintro e w2 ⟨rfl, hb2⟩; have g4 := (hb2.cell (p := ⟨p, 4, none⟩) hps).trans g4; have hb2 := hid hb2) | (go_at_call 46; refine (HA2.out _ hb2.out).mono ?_; rintro e w3 ⟨rfl, hb3⟩; have hb3 := hid hb3))
        go_ret
        exact ⟨rb (by rw [← HT.out, HT1.out, HT2.out]; simp [c1, c2, n4, n5, n6]), HB0.out.trans ((hb2.out.trans (hb3.out.mono hb2.out.size)).mono HB0.out.size)⟩
    · have c2i : decide ((n2 : Int) ≤ 40) = false := by simp; omega
      go_enter Try.func26, Try.ntmps26
      go_wp2_with fail
      rw [HW0.out, HP.out]
      go_wp2_with fail
      go_ret
      exact ⟨rb (by rw [← HT.out]; simp [c2]), by first | exact HB0.out | (rw [← HP.out]; exact HB0.out)⟩
  · have c1i : decide ((n1 : Int) ≤ 32) = false := by simp; omega
    go_enter Try.func26, Try.ntmps26
    go_wp2_with fail
    rw [HW0.out, HP.out]
    go_wp2_with fail
    go_ret
    exact ⟨rb (by rw [← HT.out]; simp [c1]), by first | exact HB0.out | (rw [← HP.out]; exact HB0.out)⟩

set_option maxRecDepth 100000 in
theorem allFrs_to (ao : Option Addr) (n cap : Nat) (xs : List Fm) (t : Bool) (ht : xs.all mayF = t) (w : World) (h : RdG 5 FrR w ao n cap xs) :
    Calls Try.prog 25 #[.slice ao n cap, .func (.func 26) #[] #[]] w fun e w' => e = .returned (.bool t) ∧ Below w.heap.size w w' := by
  subst ht
  exact allFr_to _ mayF ao n cap xs w (RdG.frrx h) en_mayFrame fun w cs x _ hR => mayFrame_to x _ rfl cs w hR.now
set_option maxRecDepth 100000 in
set_option maxHeartbeats 2000000 in
theorem mayState_to (V : SV) (S : St) (w : World) (h : StR V S w) : Calls Try.prog 11 #[.agg (V.cells S).toArray] w fun e w' => e = .returned (.bool (mayS S)) ∧ Below w.heap.size w w' := by
  obtain ⟨vo, vn, vc, fo, fn, fc⟩ := V
  obtain ⟨vs, fs, asks⟩ := S
  simp only [SV.cells]
  have hv := h.v
  have hf := h.f
  simp only at hv hf
  obtain ⟨t, ht⟩ : ∃ t, mayS ⟨vs, fs, asks⟩ = t := ⟨_, rfl⟩
  rw [ht]
  have e1 : mayS ⟨vs, fs, asks⟩ = (decide (vn ≤ 1000) && decide (fn ≤ 32) && vs.all okV && decide (-1 ≤ asks) && decide (asks ≤ 10000) && fs.all mayF) := by rw [← hv.len, ← hf.len]; rfl
  rw [e1] at ht
  have HT := hid ht
  have h63 := hv.cap63.1
  have h63' := hf.cap63.1
  obtain ⟨p, hp⟩ : ∃ p, w.heap.size = p := ⟨_, rfl⟩
  obtain ⟨w0, hw0⟩ : ∃ w0, (w.alloc (.cells #[.slice vo vn vc, .slice fo fn fc, .int .i64 asks] 25)) = w0 := ⟨_, rfl⟩
  have hb0 : Below w.heap.size w w0 := by rw [← hw0]; exact Bl.alloc (Bl.refl w) _
  have hc0 : Cel w0 p [.slice vo vn vc, .slice fo fn fc, .int .i64 asks] := by rw [← hw0, ← hp]; exact Cel.new w _ _
  have hps : p < w0.heap.size := by rw [← hw0, ← hp]; simp
  have HR1 := hid (hv.below2 hb0)
  have HR2 := hid (hf.below5 hb0)
  have HC := hid hc0
  have HB0 := hid hb0
  have HP := hid hp
  have HW0 := hid hw0
  have g0 := HC.out.cell 0 _ rfl
  have g1 := HC.out.cell 1 _ rfl
  have g2 := HC.out.cell 2 _ rfl
  clear ht e1 hv hf hb0 hc0 hp hw0 h
  have hm0 := mayAsk_to asks
  by_cases c1 : vn ≤ 1000
  · have c1i : decide ((vn : Int) ≤ 1000) = true := by simp; omega
    by_cases c2 : fn ≤ 32
    · have c2i : decide ((fn : Int) ≤ 32) = true := by simp; omega
      cases n4 : (asks == -1 || okN asks)
      · rw [n4] at hm0
        go_enter Try.func11, Try.ntmps11
        go_wp2_with fail
        rw [HW0.out, HP.out]
        go_wp2_with (go_at_call 22; (with_reducible refine (hm0 _).mono ?_); rintro e w9 ⟨rfl, rfl⟩)
        go_ret
        refine ⟨rb ?_, HB0.out⟩
        rw [← HT.out]
        simp [okN] at n4
        simp
        omega
      rw [n4] at hm0
      have N4 := hid n4
      clear n4
      obtain ⟨t1, ht1⟩ : ∃ t1, vs.all okV = t1 := ⟨_, rfl⟩
      have HA := hid (allVals_to vo vn vc vs t1 ht1 w0 HR1.out)
      have HT1 := hid ht1
      clear ht1
      cases t1 with
      | false =>
        go_enter Try.func11, Try.ntmps11
        go_wp2_with fail
        rw [HW0.out, HP.out]
        go_wp2_with (first | (go_at_call 22; (with_reducible refine (hm0 _).mono ?_); rintro e w9 ⟨rfl, rfl⟩) | (go_at_call 23; refine HA.out.mono ?_; rintro e w2 ⟨rfl, hb2⟩; have hb2 := hid hb2))
        go_ret
        exact ⟨rb (by rw [← HT.out, HT1.out]; simp), HB0.out.trans (hb2.out.mono HB0.out.size)⟩
      | true =>
        obtain ⟨t2, ht2⟩ : ∃ t2, fs.all mayF = t2 := ⟨_, rfl⟩
        have HA2 : Hid (∀ w2, Below w0.heap.size w0 w2 → Calls Try.prog 25 #[.slice fo fn fc, .func (.func 26) #[] #[]] w2 fun e w' => e = .returned (.bool t2) ∧ Below w2.heap.size w2 w') := hid fun w2 hb => allFrs_to fo fn fc fs t2 ht2 w2 (HR2.out.below5 hb)
        have HT2 := hid ht2
        clear ht2
        go_enter Try.func11, Try.ntmps11
        go_wp2_with fail
        rw [HW0.out, HP.out]
        go_wp2_with (first | (go_at_call 22; (with_reducible refine (hm0 _).mono ?_); rintro e w9 ⟨rfl, rfl⟩) | (go_at_call 23; refine HA.out.mono ?_; rintro e w2 ⟨rfl, hb2⟩; have g1 := (hb2.cell (p := ⟨p, 1, none⟩) hps).trans g1; have hb2 := hid hb2) | (go_at_call 25; refine (HA2.out _ hb2.out).mono ?_; rintro e w3 ⟨rfl, hb3⟩; have hb3 := hid hb3))
        go_ret
        refine ⟨rb ?_, HB0.out.trans ((hb2.out.trans (hb3.out.mono hb2.out.size)).mono HB0.out.size)⟩
        rw [← HT.out, HT1.out, HT2.out]
        have n4 := N4.out
        simp [okN] at n4
        cases t2 <;> simp [c1, c2]
        omega
    · have c2i : decide ((fn : Int) ≤ 32) = false := by simp; omega
      go_enter Try.func11, Try.ntmps11
      go_wp2_with fail
      rw [HW0.out, HP.out]
      go_wp2_with fail
      go_ret
      exact ⟨rb (by rw [← HT.out]; simp [c2]), by first | exact HB0.out | (rw [← HP.out]; exact HB0.out)⟩
  · have c1i : decide ((vn : Int) ≤ 1000) = false := by simp; omega
    go_enter Try.func11, Try.ntmps11
    go_wp2_with fail
    rw [HW0.out, HP.out]
    go_wp2_with fail
    go_ret
    exact ⟨rb (by rw [← HT.out]; simp [c1]), by first | exact HB0.out | (rw [← HP.out]; exact HB0.out)⟩
end Go.Proofs.Ytnbegmlbkjjggaa
