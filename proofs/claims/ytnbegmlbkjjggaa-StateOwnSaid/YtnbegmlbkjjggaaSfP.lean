/- package state: Encode: the parts' bytes, encoded. Written by gen_sf.py. -/
import Derived.Test.YtnbegmlbkjjggaaSfV
namespace Go.Proofs.Ytnbegmlbkjjggaa
open Go.RowKit
set_option linter.unusedVariables false
theorem en_putVal : ∀ args w, (callFunc 41 args).run Try.prog w = .ok (.enter 41 args) w := enters_of Try.func41 (by kernel_rfl) rfl
theorem en_putLabel : ∀ args w, (callFunc 59 args).run Try.prog w = .ok (.enter 59 args) w := enters_of Try.func59 (by kernel_rfl) rfl
theorem en_putFrame : ∀ args w, (callFunc 43 args).run Try.prog w = .ok (.enter 43 args) w := enters_of Try.func43 (by kernel_rfl) rfl

def vaE (v : Int × Int) : List Int := numE v.1 ++ encS 9 v.2
def laE (v : Int × Int) : List Int := numE v.1 ++ numE v.2
def frE (f : Fm) : List Int := numE f.fn ++ (numE f.pc ++ (numE f.base ++ (vecE vaE f.ls ++ vecE laE f.lb)))
def stE (S : St) : List Int := numE (S.asks + 1) ++ (vecE vaE S.vs ++ vecE frE S.fs)
theorem num_len (n : Int) : (numE n).length ≤ 100000000 := by have := encU_len 9 n; unfold numE; omega
theorem vaE_len (v : Int × Int) : (vaE v).length ≤ 20 := by have h := encU_len 9 v.1; have h2 := encS_len 9 v.2; unfold vaE numE; simp only [List.length_append]; omega
theorem laE_len (v : Int × Int) : (laE v).length ≤ 20 := by have h := encU_len 9 v.1; have h2 := encU_len 9 v.2; unfold laE numE; simp only [List.length_append]; omega
theorem vec_len {α : Type} (f : α → List Int) (l : List α) (n m : Nat) (hl : l.length ≤ n) (hf : ∀ x ∈ l, (f x).length ≤ m) : (vecE f l).length ≤ 10 + n * m := by
  have h1 := encU_len 9 (l.length : Int)
  have h2 := flatMap_le f l m hf
  have h3 : l.length * m ≤ n * m := Nat.mul_le_mul_right _ hl
  unfold vecE
  simp only [List.length_append]
  omega
theorem frE_len (f : Fm) (h1 : f.ls.length ≤ 32) (h2 : f.lb.length ≤ 40) : (frE f).length ≤ 1500 := by
  have a1 := encU_len 9 f.fn
  have a2 := encU_len 9 f.pc
  have a3 := encU_len 9 f.base
  have a4 := vec_len vaE f.ls 32 20 h1 (fun _ _ => vaE_len _)
  have a5 := vec_len laE f.lb 40 20 h2 (fun _ _ => laE_len _)
  unfold frE numE
  simp only [List.length_append]
  omega
/-- A row of the call's own. -/
def IsOw (E : TypeId) (B : Nat) (xs : List Int) : Value → World → Prop := fun v w => Own E .u8 B w v xs
theorem Stays.ow (E : TypeId) (B : Nat) (xs : List Int) : Stays (IsOw E B xs) := fun _ _ _ h hb => h.below hb (Nat.le_refl _)
set_option maxRecDepth 100000 in
set_option maxHeartbeats 1000000 in
theorem putVal_to (x y : Int) (w : World) (hx : 0 ≤ x ∧ x ≤ 9223372036854775807) (hy : -9223372036854775808 ≤ y ∧ y ≤ 9223372036854775807) : Calls Try.prog 41 #[.agg #[.int .i64 x, .int .i64 y]] w fun e w' => ∃ v, e = .returned v ∧ Own 5 .u8 w.heap.size w' v (numE x ++ encS 9 y) ∧ Below w.heap.size w w' := by
  obtain ⟨b1, hb1⟩ : ∃ b1, numE x = b1 := ⟨_, rfl⟩
  have lb1 : b1.length ≤ 100000000 := by rw [← hb1]; exact num_len x
  have EB1 := hid hb1
  obtain ⟨b2, hb2⟩ : ∃ b2, encS 9 y = b2 := ⟨_, rfl⟩
  have lb2 : b2.length ≤ 100000000 := by rw [← hb2]; exact by have := encS_len 9 y; omega
  have EB2 := hid hb2
  have HX := hid hx
  have HY := hid hy
  have HC0 := hid (Cel.new w [.int .i64 x, .int .i64 y] 39)
  have HB0 : Hid (Below w.heap.size w (w.alloc (.cells #[.int .i64 x, .int .i64 y] 39))) := hid (Bl.alloc (Bl.refl w) _)
  clear hb1 hb2 hx hy
  go_enter Try.func41, Try.ntmps41
  go_wp2_with fail
  refine wp_region_below_tail 6 (by kernel_rfl) [Is ?vA0, Is (.int .i64 x), IsOw 5 w.heap.size b1, Is ?vA3, Is (.int .i64 y), IsRd .u8 b2] _ rfl (by kernel_rfl) rfl (by kernel_rfl) ?hopA ?hstA ?hendA
  case hopA =>
    refine ⟨rq _ _ _ [(1, .pointer (some ⟨w.heap.size, 0, none⟩))] ⟨⟨by kernel_rfl, rfl⟩, trivial⟩ ?_, ?_⟩
    · intro a w1 hC e1
      refine Or.inl ⟨_, ?_, rfl⟩
      go_simp
      rfl
    refine ⟨rq _ _ _ [] trivial ?_, ?_⟩
    · intro a w1 hC  (h0 : a.tmps.getD 3 undef = _)
      refine Or.inl ⟨.int .i64 x, ?_, rfl⟩
      have bc := HC0.out.below (Nat.succ_pos _) hC
      have hcw0 := bc.cell 0 _ rfl
      clear bc
      go_simp
    refine ⟨rq _ _ _ [] trivial ?_, ?_⟩
    · intro a w1 hC  (h1 : a.tmps.getD 4 undef = _)
      refine Or.inr (Or.inl ⟨39, #[.int .i64 x], ?_, ?_⟩)
      · go_simp
      · refine (putNumber_to x w1 HX.out.1 HX.out.2).mono ?_
        rintro e w2 ⟨vv, rfl, hown, hbel⟩
        rw [EB1.out] at hown
        exact ⟨_, rfl, hown.lift (Bl.step HB0.out hC).size, hbel⟩
    refine ⟨rq _ _ _ [(1, .pointer (some ⟨w.heap.size, 0, none⟩))] ⟨⟨by kernel_rfl, rfl⟩, trivial⟩ ?_, ?_⟩
    · intro a w1 hC e1
      refine Or.inl ⟨_, ?_, rfl⟩
      go_simp
      rfl
    refine ⟨rq _ _ _ [] trivial ?_, ?_⟩
    · intro a w1 hC  (h3 : a.tmps.getD 6 undef = _)
      refine Or.inl ⟨.int .i64 y, ?_, rfl⟩
      have bc := HC0.out.below (Nat.succ_pos _) hC
      have hcw0 := bc.cell 1 _ rfl
      clear bc
      go_simp
    refine ⟨rq _ _ _ [] trivial ?_, ?_⟩
    · intro a w1 hC  (h4 : a.tmps.getD 7 undef = _) h2
      refine Or.inr (Or.inl ⟨57, #[.slice none 0 0, .int .i64 y], ?_, ?_⟩)
      · go_simp
      · refine ((putS_any none 0 0 [] y w1 (Rd.empty _ _) (by omega) HY.out.1 HY.out.2)).mono ?_
        rintro e w2 ⟨vv, rfl, hown, hbel⟩
        rw [List.nil_append, EB2.out] at hown
        obtain ⟨ao1, cap1, rfl, hrd⟩ := hown.rd
        exact ⟨_, rfl, ⟨ao1, cap1, rfl, hrd⟩, hbel⟩
    exact trivial
  case hstA => repeat (first | exact trivial | refine ⟨Stays.is _, ?_⟩ | refine ⟨Stays.ow _ _ _, ?_⟩ | refine ⟨Stays.rd _ _, ?_⟩)
  case hendA =>
    intro w1 hC
    rintro _ rfl _ rfl
    intro x2 h2
    rintro _ rfl _ rfl
    intro x5 h5
    obtain ⟨ao0, cap0, rfl, hr0⟩ := h5
    simp only [Ends, Act.put, List.setIfInBounds_toArray, List.set_cons_succ, List.set_cons_zero, List.drop_succ_cons, List.drop_zero]
    have HB1 := hid (Bl.step HB0.out hC)
    have hs1 := HB1.out.size
    have H2 : Hid (Own 5 .u8 w.heap.size w1 x2 b1) := hid h2
    have HR := hid hr0
    clear hr0 h2 hC
    go_wp2_with (at_builtin; refine wpList_append_rd rfl (.tmp 5) (.tmp 8) 28 rfl 5 .u8 w.heap.size 1 Try.underlying28 infoU8 _ b1 rfl H2.out ao0 _ cap0 b2 rfl HR.out (by omega) (by omega) hs1 ?_; intro v2 w2 o3 o4 _)
    go_ret
    exact ⟨_, rfl, by rw [← EB1.out, ← EB2.out] at o3; exact o3, HB1.out.trans o4⟩

set_option maxRecDepth 100000 in
set_option maxHeartbeats 1000000 in
theorem putLabel_to (x y : Int) (w : World) (hx : 0 ≤ x ∧ x ≤ 9223372036854775807) (hy : 0 ≤ y ∧ y ≤ 9223372036854775807) : Calls Try.prog 59 #[.agg #[.int .i64 x, .int .i64 y]] w fun e w' => ∃ v, e = .returned v ∧ Own 5 .u8 w.heap.size w' v (numE x ++ numE y) ∧ Below w.heap.size w w' := by
  obtain ⟨b1, hb1⟩ : ∃ b1, numE x = b1 := ⟨_, rfl⟩
  have lb1 : b1.length ≤ 100000000 := by rw [← hb1]; exact num_len x
  have EB1 := hid hb1
  obtain ⟨b2, hb2⟩ : ∃ b2, numE y = b2 := ⟨_, rfl⟩
  have lb2 : b2.length ≤ 100000000 := by rw [← hb2]; exact num_len y
  have EB2 := hid hb2
  have HX := hid hx
  have HY := hid hy
  have HC0 := hid (Cel.new w [.int .i64 x, .int .i64 y] 44)
  have HB0 : Hid (Below w.heap.size w (w.alloc (.cells #[.int .i64 x, .int .i64 y] 44))) := hid (Bl.alloc (Bl.refl w) _)
  clear hb1 hb2 hx hy
  go_enter Try.func59, Try.ntmps59
  go_wp2_with fail
  refine wp_region_below_tail 6 (by kernel_rfl) [Is ?vA0, Is (.int .i64 x), IsOw 5 w.heap.size b1, Is ?vA3, Is (.int .i64 y), IsRd .u8 b2] _ rfl (by kernel_rfl) rfl (by kernel_rfl) ?hopA ?hstA ?hendA
  case hopA =>
    refine ⟨rq _ _ _ [(1, .pointer (some ⟨w.heap.size, 0, none⟩))] ⟨⟨by kernel_rfl, rfl⟩, trivial⟩ ?_, ?_⟩
    · intro a w1 hC e1
      refine Or.inl ⟨_, ?_, rfl⟩
      go_simp
      rfl
    refine ⟨rq _ _ _ [] trivial ?_, ?_⟩
    · intro a w1 hC  (h0 : a.tmps.getD 3 undef = _)
      refine Or.inl ⟨.int .i64 x, ?_, rfl⟩
      have bc := HC0.out.below (Nat.succ_pos _) hC
      have hcw0 := bc.cell 0 _ rfl
      clear bc
      go_simp
    refine ⟨rq _ _ _ [] trivial ?_, ?_⟩
    · intro a w1 hC  (h1 : a.tmps.getD 4 undef = _)
      refine Or.inr (Or.inl ⟨39, #[.int .i64 x], ?_, ?_⟩)
      · go_simp
      · refine (putNumber_to x w1 HX.out.1 HX.out.2).mono ?_
        rintro e w2 ⟨vv, rfl, hown, hbel⟩
        rw [EB1.out] at hown
        exact ⟨_, rfl, hown.lift (Bl.step HB0.out hC).size, hbel⟩
    refine ⟨rq _ _ _ [(1, .pointer (some ⟨w.heap.size, 0, none⟩))] ⟨⟨by kernel_rfl, rfl⟩, trivial⟩ ?_, ?_⟩
    · intro a w1 hC e1
      refine Or.inl ⟨_, ?_, rfl⟩
      go_simp
      rfl
    refine ⟨rq _ _ _ [] trivial ?_, ?_⟩
    · intro a w1 hC  (h3 : a.tmps.getD 6 undef = _)
      refine Or.inl ⟨.int .i64 y, ?_, rfl⟩
      have bc := HC0.out.below (Nat.succ_pos _) hC
      have hcw0 := bc.cell 1 _ rfl
      clear bc
      go_simp
    refine ⟨rq _ _ _ [] trivial ?_, ?_⟩
    · intro a w1 hC  (h4 : a.tmps.getD 7 undef = _) h2
      refine Or.inr (Or.inl ⟨39, #[.int .i64 y], ?_, ?_⟩)
      · go_simp
      · refine ((putNumber_to y w1 HY.out.1 HY.out.2)).mono ?_
        rintro e w2 ⟨vv, rfl, hown, hbel⟩
        rw [EB2.out] at hown
        obtain ⟨ao1, cap1, rfl, hrd⟩ := hown.rd
        exact ⟨_, rfl, ⟨ao1, cap1, rfl, hrd⟩, hbel⟩
    exact trivial
  case hstA => repeat (first | exact trivial | refine ⟨Stays.is _, ?_⟩ | refine ⟨Stays.ow _ _ _, ?_⟩ | refine ⟨Stays.rd _ _, ?_⟩)
  case hendA =>
    intro w1 hC
    rintro _ rfl _ rfl
    intro x2 h2
    rintro _ rfl _ rfl
    intro x5 h5
    obtain ⟨ao0, cap0, rfl, hr0⟩ := h5
    simp only [Ends, Act.put, List.setIfInBounds_toArray, List.set_cons_succ, List.set_cons_zero, List.drop_succ_cons, List.drop_zero]
    have HB1 := hid (Bl.step HB0.out hC)
    have hs1 := HB1.out.size
    have H2 : Hid (Own 5 .u8 w.heap.size w1 x2 b1) := hid h2
    have HR := hid hr0
    clear hr0 h2 hC
    go_wp2_with (at_builtin; refine wpList_append_rd rfl (.tmp 5) (.tmp 8) 28 rfl 5 .u8 w.heap.size 1 Try.underlying28 infoU8 _ b1 rfl H2.out ao0 _ cap0 b2 rfl HR.out (by omega) (by omega) hs1 ?_; intro v2 w2 o3 o4 _)
    go_ret
    exact ⟨_, rfl, by rw [← EB1.out, ← EB2.out] at o3; exact o3, HB1.out.trans o4⟩


theorem okN_bd {n : Int} (h : okN n = true) : 0 ≤ n ∧ n ≤ 9223372036854775807 := by simp [okN] at h; omega
theorem okV_bd {v : Int × Int} (h : okV v = true) : 0 ≤ v.1 ∧ v.1 ≤ 9223372036854775807 := by simp [okV, okv] at h; omega
theorem putVals_to (ao : Option Addr) (n cap : Nat) (xs : List (Int × Int)) (w : World) (h : RdG 2 PaR w ao n cap xs) (hn : n ≤ 1000) (hm : xs.all okV = true) :
    Calls Try.prog 40 #[.slice ao n cap, .func (.func 41) #[] #[]] w fun e w' => ∃ v, e = .returned v ∧ Own 5 .u8 w.heap.size w' v (vecE vaE xs) ∧ Below w.heap.size w w' :=
  vecVa_to _ vaE ao n cap xs w (RdG.parx h) en_putVal hn (fun x _ => by have := vaE_len x; omega) fun w cs x hx hR => by
    obtain ⟨rfl, h1, h2⟩ := hR.now
    exact putVal_to x.1 x.2 w (okV_bd (List.all_eq_true.1 hm x hx)) (bounds_i64 h2)
theorem putLabs_to (ao : Option Addr) (n cap : Nat) (xs : List (Int × Int)) (w : World) (h : RdG 2 PaR w ao n cap xs) (hn : n ≤ 1000) (hm : xs.all okL = true) :
    Calls Try.prog 58 #[.slice ao n cap, .func (.func 59) #[] #[]] w fun e w' => ∃ v, e = .returned v ∧ Own 5 .u8 w.heap.size w' v (vecE laE xs) ∧ Below w.heap.size w w' :=
  vecLa_to _ laE ao n cap xs w (RdG.parx h) en_putLabel hn (fun x _ => by have := laE_len x; omega) fun w cs x hx hR => by
    obtain ⟨rfl, h1, h2⟩ := hR.now
    have := List.all_eq_true.1 hm x hx
    simp [okL] at this
    exact putLabel_to x.1 x.2 w (okN_bd this.1) (okN_bd this.2)

set_option maxRecDepth 100000 in
set_option maxHeartbeats 1000000 in
theorem putFrame_core (fn pc base : Int) (a1 : Option Addr) (n1 k1 : Nat) (a2 : Option Addr) (n2 k2 : Nat) (ls lb : List (Int × Int)) (w : World) (hr1 : RdG 2 PaR w a1 n1 k1 ls) (hr2 : RdG 2 PaR w a2 n2 k2 lb) (h1 : n1 ≤ 32) (h2 : n2 ≤ 40) (hls : ls.all okV = true) (hlb : lb.all okL = true) (hfn : okN fn = true) (hpc : okN pc = true) (hbase : okN base = true) : Calls Try.prog 43 #[.agg #[.int .i64 fn, .int .i64 pc, .slice a1 n1 k1, .int .i64 base, .slice a2 n2 k2]] w fun e w' => ∃ v, e = .returned v ∧ Own 5 .u8 w.heap.size w' v (numE fn ++ (numE pc ++ (numE base ++ (vecE vaE ls ++ vecE laE lb)))) ∧ Below w.heap.size w w' := by
  obtain ⟨b1, hb1⟩ : ∃ b1, numE fn = b1 := ⟨_, rfl⟩
  have lb1 : b1.length ≤ 100000000 := by rw [← hb1]; exact num_len fn
  have EB1 := hid hb1
  obtain ⟨b2, hb2⟩ : ∃ b2, numE pc = b2 := ⟨_, rfl⟩
  have lb2 : b2.length ≤ 100000000 := by rw [← hb2]; exact num_len pc
  have EB2 := hid hb2
  obtain ⟨b3, hb3⟩ : ∃ b3, numE base = b3 := ⟨_, rfl⟩
  have lb3 : b3.length ≤ 100000000 := by rw [← hb3]; exact num_len base
  have EB3 := hid hb3
  obtain ⟨b4, hb4⟩ : ∃ b4, vecE vaE ls = b4 := ⟨_, rfl⟩
  have lb4 : b4.length ≤ 100000000 := by rw [← hb4]; exact (Nat.le_trans (vec_len vaE ls 32 20 (by rw [hr1.len]; exact h1) (fun _ _ => vaE_len _)) (by decide))
  have EB4 := hid hb4
  obtain ⟨b5, hb5⟩ : ∃ b5, vecE laE lb = b5 := ⟨_, rfl⟩
  have lb5 : b5.length ≤ 100000000 := by rw [← hb5]; exact (Nat.le_trans (vec_len laE lb 40 20 (by rw [hr2.len]; exact h2) (fun _ _ => laE_len _)) (by decide))
  have EB5 := hid hb5
  have HR1 := hid hr1
  have HR2 := hid hr2
  have HLS := hid hls
  have HLB := hid hlb
  have HFN := hid (okN_bd hfn)
  have HPC := hid (okN_bd hpc)
  have HBA := hid (okN_bd hbase)
  have HC0 := hid (Cel.new w [.int .i64 fn, .int .i64 pc, .slice a1 n1 k1, .int .i64 base, .slice a2 n2 k2] 42)
  have HB0 : Hid (Below w.heap.size w (w.alloc (.cells #[.int .i64 fn, .int .i64 pc, .slice a1 n1 k1, .int .i64 base, .slice a2 n2 k2] 42))) := hid (Bl.alloc (Bl.refl w) _)
  clear hb1 hb2 hb3 hb4 hb5 hr1 hr2 hls hlb hfn hpc hbase
  go_enter Try.func43, Try.ntmps43
  go_wp2_with fail
  refine wp_region_below_tail 15 (by kernel_rfl) [Is ?vA0, Is (.int .i64 fn), IsRd .u8 b1, Is ?vA3, Is (.int .i64 pc), IsRd .u8 b2, Is ?vA6, Is (.int .i64 base), IsRd .u8 b3, Is ?vA9, Is (.slice a1 n1 k1), IsRd .u8 b4, Is ?vA12, Is (.slice a2 n2 k2), IsRd .u8 b5] _ rfl (by kernel_rfl) rfl (by kernel_rfl) ?hopA ?hstA ?hendA
  case hopA =>
    refine ⟨rq _ _ _ [(1, .pointer (some ⟨w.heap.size, 0, none⟩))] ⟨⟨by kernel_rfl, rfl⟩, trivial⟩ ?_, ?_⟩
    · intro a w1 hC e1
      refine Or.inl ⟨_, ?_, rfl⟩
      go_simp
      rfl
    refine ⟨rq _ _ _ [] trivial ?_, ?_⟩
    · intro a w1 hC  (h0 : a.tmps.getD 3 undef = _)
      refine Or.inl ⟨.int .i64 fn, ?_, rfl⟩
      have bc := HC0.out.below (Nat.succ_pos _) hC
      have hcw0 := bc.cell 0 _ rfl
      clear bc
      go_simp
    refine ⟨rq _ _ _ [] trivial ?_, ?_⟩
    · intro a w1 hC  (h1 : a.tmps.getD 4 undef = _)
      refine Or.inr (Or.inl ⟨39, #[.int .i64 fn], ?_, ?_⟩)
      · go_simp
      · refine (putNumber_to fn w1 HFN.out.1 HFN.out.2).mono ?_
        rintro e w2 ⟨vv, rfl, hown, hbel⟩
        rw [EB1.out] at hown
        obtain ⟨ao1, cap1, rfl, hrd⟩ := hown.rd
        exact ⟨_, rfl, ⟨ao1, cap1, rfl, hrd⟩, hbel⟩
    refine ⟨rq _ _ _ [(1, .pointer (some ⟨w.heap.size, 0, none⟩))] ⟨⟨by kernel_rfl, rfl⟩, trivial⟩ ?_, ?_⟩
    · intro a w1 hC e1
      refine Or.inl ⟨_, ?_, rfl⟩
      go_simp
      rfl
    refine ⟨rq _ _ _ [] trivial ?_, ?_⟩
    · intro a w1 hC  (h3 : a.tmps.getD 6 undef = _)
      refine Or.inl ⟨.int .i64 pc, ?_, rfl⟩
      have bc := HC0.out.below (Nat.succ_pos _) hC
      have hcw0 := bc.cell 1 _ rfl
      clear bc
      go_simp
    refine ⟨rq _ _ _ [] trivial ?_, ?_⟩
    · intro a w1 hC  (h4 : a.tmps.getD 7 undef = _) h2
      refine Or.inr (Or.inl ⟨39, #[.int .i64 pc], ?_, ?_⟩)
      · go_simp
      · refine (putNumber_to pc w1 HPC.out.1 HPC.out.2).mono ?_
        rintro e w2 ⟨vv, rfl, hown, hbel⟩
        rw [EB2.out] at hown
        obtain ⟨ao1, cap1, rfl, hrd⟩ := hown.rd
        exact ⟨_, rfl, ⟨ao1, cap1, rfl, hrd⟩, hbel⟩
    refine ⟨rq _ _ _ [(1, .pointer (some ⟨w.heap.size, 0, none⟩))] ⟨⟨by kernel_rfl, rfl⟩, trivial⟩ ?_, ?_⟩
    · intro a w1 hC e1
      refine Or.inl ⟨_, ?_, rfl⟩
      go_simp
      rfl
    refine ⟨rq _ _ _ [] trivial ?_, ?_⟩
    · intro a w1 hC  (h6 : a.tmps.getD 9 undef = _)
      refine Or.inl ⟨.int .i64 base, ?_, rfl⟩
      have bc := HC0.out.below (Nat.succ_pos _) hC
      have hcw0 := bc.cell 3 _ rfl
      clear bc
      go_simp
    refine ⟨rq _ _ _ [] trivial ?_, ?_⟩
    · intro a w1 hC  (h7 : a.tmps.getD 10 undef = _) h5
      refine Or.inr (Or.inl ⟨39, #[.int .i64 base], ?_, ?_⟩)
      · go_simp
      · refine (putNumber_to base w1 HBA.out.1 HBA.out.2).mono ?_
        rintro e w2 ⟨vv, rfl, hown, hbel⟩
        rw [EB3.out] at hown
        obtain ⟨ao1, cap1, rfl, hrd⟩ := hown.rd
        exact ⟨_, rfl, ⟨ao1, cap1, rfl, hrd⟩, hbel⟩
    refine ⟨rq _ _ _ [(1, .pointer (some ⟨w.heap.size, 0, none⟩))] ⟨⟨by kernel_rfl, rfl⟩, trivial⟩ ?_, ?_⟩
    · intro a w1 hC e1
      refine Or.inl ⟨_, ?_, rfl⟩
      go_simp
      rfl
    refine ⟨rq _ _ _ [] trivial ?_, ?_⟩
    · intro a w1 hC  (h9 : a.tmps.getD 12 undef = _)
      refine Or.inl ⟨.slice a1 n1 k1, ?_, rfl⟩
      have bc := HC0.out.below (Nat.succ_pos _) hC
      have hcw0 := bc.cell 2 _ rfl
      clear bc
      go_simp
    refine ⟨rq _ _ _ [] trivial ?_, ?_⟩
    · intro a w1 hC  (h10 : a.tmps.getD 13 undef = _) h8
      refine Or.inr (Or.inl ⟨40, #[.slice a1 n1 k1, .func (.func 41) #[] #[]], ?_, ?_⟩)
      · go_simp
      · refine (putVals_to a1 n1 k1 ls w1 (HR1.out.below2 (Bl.step HB0.out hC)) (by omega) HLS.out).mono ?_
        rintro e w2 ⟨vv, rfl, hown, hbel⟩
        rw [EB4.out] at hown
        obtain ⟨ao1, cap1, rfl, hrd⟩ := hown.rd
        exact ⟨_, rfl, ⟨ao1, cap1, rfl, hrd⟩, hbel⟩
    refine ⟨rq _ _ _ [(1, .pointer (some ⟨w.heap.size, 0, none⟩))] ⟨⟨by kernel_rfl, rfl⟩, trivial⟩ ?_, ?_⟩
    · intro a w1 hC e1
      refine Or.inl ⟨_, ?_, rfl⟩
      go_simp
      rfl
    refine ⟨rq _ _ _ [] trivial ?_, ?_⟩
    · intro a w1 hC  (h12 : a.tmps.getD 15 undef = _)
      refine Or.inl ⟨.slice a2 n2 k2, ?_, rfl⟩
      have bc := HC0.out.below (Nat.succ_pos _) hC
      have hcw0 := bc.cell 4 _ rfl
      clear bc
      go_simp
    refine ⟨rq _ _ _ [] trivial ?_, ?_⟩
    · intro a w1 hC  (h13 : a.tmps.getD 16 undef = _) h11
      refine Or.inr (Or.inl ⟨58, #[.slice a2 n2 k2, .func (.func 59) #[] #[]], ?_, ?_⟩)
      · go_simp
      · refine (putLabs_to a2 n2 k2 lb w1 (HR2.out.below2 (Bl.step HB0.out hC)) (by omega) HLB.out).mono ?_
        rintro e w2 ⟨vv, rfl, hown, hbel⟩
        rw [EB5.out] at hown
        obtain ⟨ao1, cap1, rfl, hrd⟩ := hown.rd
        exact ⟨_, rfl, ⟨ao1, cap1, rfl, hrd⟩, hbel⟩
    exact trivial
  case hstA => repeat (first | exact trivial | refine ⟨Stays.is _, ?_⟩ | refine ⟨Stays.rd _ _, ?_⟩)
  case hendA =>
    intro w1 hC
    rintro _ rfl _ rfl
    intro x2 h2
    rintro _ rfl _ rfl
    intro x5 h5
    rintro _ rfl _ rfl
    intro x8 h8
    rintro _ rfl _ rfl
    intro x11 h11
    rintro _ rfl _ rfl
    intro x14 h14
    obtain ⟨ao0, cap0, rfl, hr0⟩ := h2
    obtain ⟨ao1, cap1, rfl, hr1⟩ := h5
    obtain ⟨ao2, cap2, rfl, hr2⟩ := h8
    obtain ⟨ao3, cap3, rfl, hr3⟩ := h11
    obtain ⟨ao4, cap4, rfl, hr4⟩ := h14
    simp only [Ends, Act.put, List.setIfInBounds_toArray, List.set_cons_succ, List.set_cons_zero, List.drop_succ_cons, List.drop_zero]
    have hp := pieces_of (w := w1) [⟨ao0, b1.length, cap0, b1⟩, ⟨ao1, b2.length, cap1, b2⟩, ⟨ao2, b3.length, cap2, b3⟩, ⟨ao3, b4.length, cap3, b4⟩, ⟨ao4, b5.length, cap4, b5⟩] (by
      intro p hp
      simp at hp
      rcases hp with rfl | rfl | rfl | rfl | rfl
      · exact hr0
      · exact hr1
      · exact hr2
      · exact hr3
      · exact hr4
      ) 28
    have hcc := concat_to _ 0 _ 5 _ rfl (by decide) hp (by simp [lens]; omega)
    have HCC := hid hcc
    have HB1 := hid (Bl.step HB0.out hC)
    clear hp hcc hC hr0 hr1 hr2 hr3 hr4
    go_wp2_with fail
    refine HCC.out.mono ?_
    rintro e w3 ⟨v3, rfl, hv3, hb3⟩
    have HB3 := hid (Bl.step (Bl.alloc HB1.out _) hb3)
    have HV3 := hid (hv3.lift (Bl.alloc HB1.out _).size)
    simp only [cats, List.append_nil] at HV3
    clear hv3 hb3 HCC
    go_wp2_with fail
    go_ret
    refine ⟨_, rfl, ?_, HB3.out⟩
    rw [EB1.out, EB2.out, EB3.out, EB4.out, EB5.out]
    exact HV3.out


theorem mayF_ls {xs : List Fm} (hm : xs.all mayF = true) : ∀ x ∈ xs, x.ls.length ≤ 32 ∧ x.lb.length ≤ 40 := fun x hx => by
  have := List.all_eq_true.1 hm x hx
  simp only [mayF, Bool.and_eq_true, decide_eq_true_eq] at this
  obtain ⟨⟨⟨⟨⟨⟨q1, q2⟩, q3⟩, q4⟩, q5⟩, q6⟩, q7⟩ := this
  exact ⟨q1, q2⟩
theorem putFrs_to (ao : Option Addr) (n cap : Nat) (xs : List Fm) (w : World) (h : RdG 5 FrR w ao n cap xs) (hn : n ≤ 32) (hm : xs.all mayF = true) :
    Calls Try.prog 42 #[.slice ao n cap, .func (.func 43) #[] #[]] w fun e w' => ∃ v, e = .returned v ∧ Own 5 .u8 w.heap.size w' v (vecE frE xs) ∧ Below w.heap.size w w' := by
  have hF : ∀ x ∈ xs, x.ls.length ≤ 32 ∧ x.lb.length ≤ 40 ∧ x.ls.all okV = true ∧ x.lb.all okL = true ∧ okN x.fn = true ∧ okN x.pc = true ∧ okN x.base = true := fun x hx => by
    have := List.all_eq_true.1 hm x hx
    simp only [mayF, Bool.and_eq_true, decide_eq_true_eq] at this
    obtain ⟨⟨⟨⟨⟨⟨q1, q2⟩, q3⟩, q4⟩, q5⟩, q6⟩, q7⟩ := this
    exact ⟨q1, q2, q3, q7, q4, q5, q6⟩
  refine vecFr_to _ frE ao n cap xs w (RdG.frrx h) en_putFrame (by omega) (fun x hx => by have := frE_len x (hF x hx).1 (hF x hx).2.1; omega) fun w cs x hx hR => ?_
  obtain ⟨a1, n1, k1, a2, n2, k2, rfl, hr1, hr2, _⟩ := hR.now
  obtain ⟨q1, q2, q3, q4, q5, q6, q7⟩ := hF x hx
  exact putFrame_core x.fn x.pc x.base a1 n1 k1 a2 n2 k2 x.ls x.lb w hr1 hr2 (by rw [← hr1.len]; exact q1) (by rw [← hr2.len]; exact q2) q3 q4 q5 q6 q7

set_option maxRecDepth 100000 in
set_option maxHeartbeats 1000000 in
theorem encoded_core (vo : Option Addr) (vn vc : Nat) (fo : Option Addr) (fn fc : Nat) (vs : List (Int × Int)) (fs : List Fm) (asks : Int) (w : World) (hv : RdG 2 PaR w vo vn vc vs) (hf : RdG 5 FrR w fo fn fc fs) (h1 : vn ≤ 1000) (h2 : fn ≤ 32) (hvs : vs.all okV = true) (hfs : fs.all mayF = true) (h3 : -1 ≤ asks) (h4 : asks ≤ 10000) : Calls Try.prog 21 #[.agg #[.slice vo vn vc, .slice fo fn fc, .int .i64 asks]] w fun e w' => ∃ v, e = .returned v ∧ Own 5 .u8 w.heap.size w' v (numE (asks + 1) ++ (vecE vaE vs ++ vecE frE fs)) ∧ Below w.heap.size w w' := by
  obtain ⟨b1, hb1⟩ : ∃ b1, numE (asks + 1) = b1 := ⟨_, rfl⟩
  have lb1 : b1.length ≤ 100000000 := by rw [← hb1]; exact num_len _
  have EB1 := hid hb1
  obtain ⟨b2, hb2⟩ : ∃ b2, vecE vaE vs = b2 := ⟨_, rfl⟩
  have lb2 : b2.length ≤ 100000000 := by rw [← hb2]; exact (Nat.le_trans (vec_len vaE vs 1000 20 (by rw [hv.len]; exact h1) (fun _ _ => vaE_len _)) (by decide))
  have EB2 := hid hb2
  obtain ⟨b3, hb3⟩ : ∃ b3, vecE frE fs = b3 := ⟨_, rfl⟩
  have lb3 : b3.length ≤ 100000000 := by rw [← hb3]; exact (Nat.le_trans (vec_len frE fs 32 1500 (by rw [hf.len]; exact h2) (fun x hx => frE_len x (mayF_ls hfs x hx).1 (mayF_ls hfs x hx).2)) (by decide))
  have EB3 := hid hb3
  have HV := hid hv
  have HF := hid hf
  have HVS := hid hvs
  have HFS := hid hfs
  have hw : IntKind.i64.wrap (asks - -1) = asks + 1 := by rw [IntWalk.i64_in _ (by omega)]; omega
  have hw2 : asks - -1 = asks + 1 := by omega
  have hw4 : IntKind.i64.wrap (asks + 1) = asks + 1 := IntWalk.i64_in _ (by omega)
  have HC0 := hid (Cel.new w [.slice vo vn vc, .slice fo fn fc, .int .i64 asks] 25)
  have HB0 : Hid (Below w.heap.size w (w.alloc (.cells #[.slice vo vn vc, .slice fo fn fc, .int .i64 asks] 25))) := hid (Bl.alloc (Bl.refl w) _)
  clear hb1 hb2 hb3 hv hf hvs hfs
  go_enter Try.func21, Try.ntmps21
  go_wp2_with fail
  refine wp_region_below_tail 10 (by kernel_rfl) [Is ?vA0, Is (.int .i64 asks), Is (.int .i64 (asks + 1)), IsRd .u8 b1, Is ?vA4, Is (.slice vo vn vc), IsRd .u8 b2, Is ?vA7, Is (.slice fo fn fc), IsRd .u8 b3] _ rfl (by kernel_rfl) rfl (by kernel_rfl) ?hopA ?hstA ?hendA
  case hopA =>
    refine ⟨rq _ _ _ [(1, .pointer (some ⟨w.heap.size, 0, none⟩))] ⟨⟨by kernel_rfl, rfl⟩, trivial⟩ ?_, ?_⟩
    · intro a w1 hC e1
      refine Or.inl ⟨_, ?_, rfl⟩
      go_simp
      rfl
    refine ⟨rq _ _ _ [] trivial ?_, ?_⟩
    · intro a w1 hC  (h0 : a.tmps.getD 3 undef = _)
      refine Or.inl ⟨.int .i64 asks, ?_, rfl⟩
      have bc := HC0.out.below (Nat.succ_pos _) hC
      have hcw0 := bc.cell 2 _ rfl
      clear bc
      go_simp
    refine ⟨rq _ _ _ [] trivial ?_, ?_⟩
    · intro a w1 hC  (h1 : a.tmps.getD 4 undef = _)
      refine Or.inl ⟨_, ?_, rfl⟩
      go_simp
      try rw [hw2]
      all_goals exact hw4
    refine ⟨rq _ _ _ [] trivial ?_, ?_⟩
    · intro a w1 hC  (h2 : a.tmps.getD 5 undef = _)
      refine Or.inr (Or.inl ⟨39, #[.int .i64 (asks + 1)], ?_, ?_⟩)
      · go_simp
      · refine (putNumber_to (asks + 1) w1 (by omega) (by omega)).mono ?_
        rintro e w2 ⟨vv, rfl, hown, hbel⟩
        rw [EB1.out] at hown
        obtain ⟨ao1, cap1, rfl, hrd⟩ := hown.rd
        exact ⟨_, rfl, ⟨ao1, cap1, rfl, hrd⟩, hbel⟩
    refine ⟨rq _ _ _ [(1, .pointer (some ⟨w.heap.size, 0, none⟩))] ⟨⟨by kernel_rfl, rfl⟩, trivial⟩ ?_, ?_⟩
    · intro a w1 hC e1
      refine Or.inl ⟨_, ?_, rfl⟩
      go_simp
      rfl
    refine ⟨rq _ _ _ [] trivial ?_, ?_⟩
    · intro a w1 hC  (h4 : a.tmps.getD 7 undef = _)
      refine Or.inl ⟨.slice vo vn vc, ?_, rfl⟩
      have bc := HC0.out.below (Nat.succ_pos _) hC
      have hcw0 := bc.cell 0 _ rfl
      clear bc
      go_simp
    refine ⟨rq _ _ _ [] trivial ?_, ?_⟩
    · intro a w1 hC  (h5 : a.tmps.getD 8 undef = _) h3
      refine Or.inr (Or.inl ⟨40, #[.slice vo vn vc, .func (.func 41) #[] #[]], ?_, ?_⟩)
      · go_simp
      · refine (putVals_to vo vn vc vs w1 (HV.out.below2 (Bl.step HB0.out hC)) (by omega) HVS.out).mono ?_
        rintro e w2 ⟨vv, rfl, hown, hbel⟩
        rw [EB2.out] at hown
        obtain ⟨ao1, cap1, rfl, hrd⟩ := hown.rd
        exact ⟨_, rfl, ⟨ao1, cap1, rfl, hrd⟩, hbel⟩
    refine ⟨rq _ _ _ [(1, .pointer (some ⟨w.heap.size, 0, none⟩))] ⟨⟨by kernel_rfl, rfl⟩, trivial⟩ ?_, ?_⟩
    · intro a w1 hC e1
      refine Or.inl ⟨_, ?_, rfl⟩
      go_simp
      rfl
    refine ⟨rq _ _ _ [] trivial ?_, ?_⟩
    · intro a w1 hC  (h7 : a.tmps.getD 10 undef = _)
      refine Or.inl ⟨.slice fo fn fc, ?_, rfl⟩
      have bc := HC0.out.below (Nat.succ_pos _) hC
      have hcw0 := bc.cell 1 _ rfl
      clear bc
      go_simp
    refine ⟨rq _ _ _ [] trivial ?_, ?_⟩
    · intro a w1 hC  (h8 : a.tmps.getD 11 undef = _) h6
      refine Or.inr (Or.inl ⟨42, #[.slice fo fn fc, .func (.func 43) #[] #[]], ?_, ?_⟩)
      · go_simp
      · refine (putFrs_to fo fn fc fs w1 (HF.out.below5 (Bl.step HB0.out hC)) (by omega) HFS.out).mono ?_
        rintro e w2 ⟨vv, rfl, hown, hbel⟩
        rw [EB3.out] at hown
        obtain ⟨ao1, cap1, rfl, hrd⟩ := hown.rd
        exact ⟨_, rfl, ⟨ao1, cap1, rfl, hrd⟩, hbel⟩
    exact trivial
  case hstA => repeat (first | exact trivial | refine ⟨Stays.is _, ?_⟩ | refine ⟨Stays.rd _ _, ?_⟩)
  case hendA =>
    intro w1 hC
    rintro _ rfl _ rfl _ rfl
    intro x3 h3
    rintro _ rfl _ rfl
    intro x6 h6
    rintro _ rfl _ rfl
    intro x9 h9
    obtain ⟨ao0, cap0, rfl, hr0⟩ := h3
    obtain ⟨ao1, cap1, rfl, hr1⟩ := h6
    obtain ⟨ao2, cap2, rfl, hr2⟩ := h9
    simp only [Ends, Act.put, List.setIfInBounds_toArray, List.set_cons_succ, List.set_cons_zero, List.drop_succ_cons, List.drop_zero]
    have hp := pieces_of (w := w1) [⟨ao0, b1.length, cap0, b1⟩, ⟨ao1, b2.length, cap1, b2⟩, ⟨ao2, b3.length, cap2, b3⟩] (by
      intro p hp
      simp at hp
      rcases hp with rfl | rfl | rfl
      · exact hr0
      · exact hr1
      · exact hr2
      ) 28
    have hcc := concat_to _ 0 _ 3 _ rfl (by decide) hp (by simp [lens]; omega)
    have HCC := hid hcc
    have HB1 := hid (Bl.step HB0.out hC)
    clear hp hcc hC hr0 hr1 hr2
    go_wp2_with fail
    refine HCC.out.mono ?_
    rintro e w3 ⟨v3, rfl, hv3, hb3⟩
    have HB3 := hid (Bl.step (Bl.alloc HB1.out _) hb3)
    have HV3 := hid (hv3.lift (Bl.alloc HB1.out _).size)
    simp only [cats, List.append_nil] at HV3
    clear hv3 hb3 HCC
    go_wp2_with fail
    go_ret
    refine ⟨_, rfl, ?_, HB3.out⟩
    rw [EB1.out, EB2.out, EB3.out]
    exact HV3.out


theorem mayS_parts {S : St} (h : mayS S = true) : S.vs.length ≤ 1000 ∧ S.fs.length ≤ 32 ∧ S.vs.all okV = true ∧ -1 ≤ S.asks ∧ S.asks ≤ 10000 ∧ S.fs.all mayF = true := by
  simp only [mayS, Bool.and_eq_true, decide_eq_true_eq] at h
  obtain ⟨⟨⟨⟨⟨q1, q2⟩, q3⟩, q4⟩, q5⟩, q6⟩ := h
  exact ⟨q1, q2, q3, q4, q5, q6⟩
theorem encoded_to (V : SV) (S : St) (w : World) (h : StR V S w) (hm : mayS S = true) : Calls Try.prog 21 #[.agg (V.cells S).toArray] w fun e w' => ∃ v, e = .returned v ∧ Own 5 .u8 w.heap.size w' v (stE S) ∧ Below w.heap.size w w' := by
  obtain ⟨q1, q2, q3, q4, q5, q6⟩ := mayS_parts hm
  exact encoded_core V.vo V.vn V.vc V.fo V.fn V.fc S.vs S.fs S.asks w h.v h.f (by rw [← h.v.len]; exact q1) (by rw [← h.f.len]; exact q2) q3 q6 q4 q5
def encSt (S : St) : List Int := if mayS S = true then stE S else []
set_option maxRecDepth 100000 in
set_option maxHeartbeats 1000000 in
theorem encState_to (V : SV) (S : St) (w : World) (h : StR V S w) : Calls Try.prog 10 #[.agg (V.cells S).toArray] w fun e w' => ∃ v, e = .returned v ∧ Own 5 .u8 w.heap.size w' v (encSt S) ∧ Below w.heap.size w w' := by
  have hx := h.rx
  have H := hid hx
  obtain ⟨vo, vn, vc, fo, fn, fc⟩ := V
  obtain ⟨vs, fs, asks⟩ := S
  have hcs : SV.cells ⟨vo, vn, vc, fo, fn, fc⟩ ⟨vs, fs, asks⟩ = [.slice vo vn vc, .slice fo fn fc, .int .i64 asks] := rfl
  obtain ⟨w0, hw0⟩ : ∃ w0, (w.alloc (.cells #[.slice vo vn vc, .slice fo fn fc, .int .i64 asks] 25)) = w0 := ⟨_, rfl⟩
  have hb0 : Below w.heap.size w w0 := by rw [← hw0]; exact Bl.alloc (Bl.refl w) _
  obtain ⟨p, hp⟩ : ∃ p, w.heap.size = p := ⟨_, rfl⟩
  have hc0 : Cel w0 p [.slice vo vn vc, .slice fo fn fc, .int .i64 asks] := by rw [← hw0, ← hp]; exact Cel.new w _ _
  have hps : p < w0.heap.size := by rw [← hw0, ← hp]; simp
  have hm := mayState_to ⟨vo, vn, vc, fo, fn, fc⟩ ⟨vs, fs, asks⟩ w0 (hx.below hb0).now
  have HE : Hid (∀ w2, Below w0.heap.size w0 w2 → mayS ⟨vs, fs, asks⟩ = true → Calls Try.prog 21 #[.agg #[.slice vo vn vc, .slice fo fn fc, .int .i64 asks]] w2 fun e w' => ∃ v, e = .returned v ∧ Own 5 .u8 w2.heap.size w' v (stE ⟨vs, fs, asks⟩) ∧ Below w2.heap.size w2 w') := hid fun w2 hb hm => encoded_to ⟨vo, vn, vc, fo, fn, fc⟩ ⟨vs, fs, asks⟩ w2 (hx.below (hb0.trans (hb.mono hb0.size))).now hm
  rw [hcs] at hm ⊢
  have g0 := hc0.cell 0 _ rfl
  have g1 := hc0.cell 1 _ rfl
  have g2 := hc0.cell 2 _ rfl
  obtain ⟨t, ht⟩ : ∃ t, mayS ⟨vs, fs, asks⟩ = t := ⟨_, rfl⟩
  have HT := hid ht
  rw [ht] at hm
  have HM := hid hm
  have HW0 := hid hw0
  have HP := hid hp
  have HB0 := hid hb0
  clear hm ht hx h hw0 hp hb0 hc0 hcs
  cases t with
  | false =>
    go_enter Try.func10, Try.ntmps10
    go_wp2_with fail
    rw [HW0.out, HP.out]
    go_wp2_with (go_at_call 11; refine HM.out.mono ?_; rintro e w2 ⟨rfl, hb2⟩; have hb2 := hid hb2)
    go_ret
    exact ⟨_, rfl, by unfold encSt; rw [if_neg (by rw [HT.out]; decide)]; exact Own.nil _ _ _ _, HB0.out.trans (hb2.out.mono HB0.out.size)⟩
  | true =>
    go_enter Try.func10, Try.ntmps10
    go_wp2_with fail
    rw [HW0.out, HP.out]
    go_wp2_with (first | (go_at_call 11; refine HM.out.mono ?_; rintro e w2 ⟨rfl, hb2⟩; have g0 := (hb2.cell (p := ⟨p, 0, none⟩) hps).trans g0; have g1 := (hb2.cell (p := ⟨p, 1, none⟩) hps).trans g1; have g2 := (hb2.cell (p := ⟨p, 2, none⟩) hps).trans g2; have hb2 := hid hb2) | (go_at_call 21; refine (HE.out _ hb2.out HT.out).mono ?_; rintro e w3 ⟨v3, rfl, hv3, hb3⟩; have hv3 := hid hv3; have hb3 := hid hb3))
    go_ret
    exact ⟨_, rfl, by unfold encSt; rw [if_pos HT.out]; exact hv3.out.lift (Nat.le_trans HB0.out.size hb2.out.size), HB0.out.trans ((hb2.out.trans (hb3.out.mono hb2.out.size)).mono HB0.out.size)⟩
end Go.Proofs.Ytnbegmlbkjjggaa
