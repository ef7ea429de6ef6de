/- super: what a text on a device is in memory; Text, Turn, fits. -/
import Derived.Test.YtpfcopdckjedfaaDoorSuE
import Derived.Test.YtpfcopdckjedfaaDoorBlk
namespace Go.Proofs.YtpfcopdckjedfaaDoor
open Go.RowKit
set_option linter.unusedVariables false
set_option maxRecDepth 100000

theorem Dv.ok64 {M : Dv} (h : M.ok) {i : Nat} (hi : i < M.now.length) : (M.now.getD i []).length = 64 := by
  have : M.now.getD i [] ∈ M.now := by simp [List.getD, hi]
  exact (h.now _ this).1
/-- What Make leaves. -/
theorem make_math {M : Dv} (hM : M.ok) (hf : M.fuse = -1) {lo : Nat} (hn : lo + 2 ≤ M.now.length) {b : List Int} (hb : b.length ≤ 40) :
    (stoM (recE 1 b) [lo, lo + 1] M).2 = 0 ∧ SHas (stoM (recE 1 b) [lo, lo + 1] M).1.now lo b 1 ∧ (stoM (recE 1 b) [lo, lo + 1] M).1.still ∧ (stoM (recE 1 b) [lo, lo + 1] M).1.fuse = -1 ∧ (stoM (recE 1 b) [lo, lo + 1] M).1.calls ≤ M.calls + 10 ∧
      (stoM (recE 1 b) [lo, lo + 1] M).1.now.length = M.now.length ∧ ∀ i, i ≠ lo → i ≠ lo + 1 → (stoM (recE 1 b) [lo, lo + 1] M).1.now.getD i [] = M.now.getD i [] := by
  have hl := recE_len 1 hb
  obtain ⟨E, hE⟩ : ∃ E, recE 1 b = E := ⟨_, rfl⟩
  rw [hE] at hl ⊢
  obtain ⟨a1, a2⟩ := Dv.write_all (Dv.ok64 hM (i := lo) (by omega)) (by omega) hl (by omega)
  obtain ⟨M1, h1⟩ : ∃ M1, M.write (lo : Int) E = M1 := ⟨_, rfl⟩
  have n1 : M1.now = M.now.set lo E := by rw [← h1, a2]; rfl
  have f1 : M1.fuse = -1 := by rw [← h1, a2]; exact Dv.next_fuse hf
  have c1 : M1.calls = M.calls + 1 := by rw [← h1, a2]; rfl
  obtain ⟨b1, b2⟩ := Dv.write_all (M := M1) (i := lo + 1) (by rw [n1, getD_set_ne (by omega)]; exact Dv.ok64 hM (by omega)) (by rw [n1, List.length_set]; omega) hl (by omega)
  obtain ⟨M2, h2⟩ : ∃ M2, M1.write ((lo + 1 : Nat) : Int) E = M2 := ⟨_, rfl⟩
  have n2 : M2.now = (M.now.set lo E).set (lo + 1) E := by rw [← h2, b2, ← n1]; rfl
  have f2 : M2.fuse = -1 := by rw [← h2, b2]; exact Dv.next_fuse f1
  have c2 : M2.calls = M.calls + 2 := by rw [← h2, b2]; show M1.calls + 1 = _; omega
  have e3 : M2.flush = Dv.next { M2 with safe := M2.now, loose := List.replicate M2.now.length false } := by unfold Dv.flush; rw [if_neg (by omega)]
  have e : stoM E [lo, lo + 1] M = (M2.flush, M2.flushE) := by
    show (if M.writeE lo 64 = 0 then (if (M.write lo E).writeE ((lo + 1 : Nat) : Int) 64 = 0 then ((((M.write lo E).write ((lo + 1 : Nat) : Int) E).flush, ((M.write lo E).write ((lo + 1 : Nat) : Int) E).flushE) : Dv × Int) else _) else _) = _
    rw [if_pos a1, h1, if_pos b1, h2]
  rw [e]
  refine ⟨by show M2.flushE = 0; unfold Dv.flushE; rw [if_neg (by omega)], ?_, ?_, ?_, ?_, ?_, ?_⟩
  · rw [e3]
    show SHas M2.now lo b 1
    rw [n2]
    refine SHas.first ?_ ?_ hb
    · rw [getD_set_ne (by omega), getD_set_self (by omega), hE]
    · rw [getD_set_self (by rw [List.length_set]; omega), hE]
  · rw [e3]; exact ⟨rfl, rfl⟩
  · rw [e3]; exact Dv.next_fuse f2
  · rw [e3]; show M2.calls + 1 ≤ _; omega
  · rw [e3]; show M2.now.length = _; rw [n2]; simp
  · intro i q1 q2
    rw [e3]
    show M2.now.getD i [] = _
    rw [n2, getD_set_ne (by omega), getD_set_ne (by omega)]

/-- At q there is the text s, all of it in the blocks B. -/
def SuAt (B : Nat → Prop) (s : Sp) (q : Addr) (w : World) : Prop := ∃ p ao n cap, q = ⟨p, 0, none⟩ ∧
  Blk w p 55 [.pointer (some s.p), .int .i64 s.turn, .slice ao n cap, .int .i64 ((s.lo + pr s.turn : Nat) : Int), .int .i64 ((s.lo + (1 - pr s.turn) : Nat) : Int)] ∧
  Rd .u8 w ao n cap s.text ∧ B p ∧ (∀ ad, ao = some ad → 0 < n → B ad.block ∧ ad.block ≠ p) ∧ (∀ b, B b → b < w.heap.size)
theorem SuAt.keep {B : Nat → Prop} {s : Sp} {q : Addr} {w w' : World} (h : SuAt B s q w) (hk : ∀ b, B b → w'.heap[b]? = w.heap[b]?) : SuAt B s q w' := by
  obtain ⟨p, ao, n, cap, e, h1, h2, h3, h4, h5⟩ := h
  refine ⟨p, ao, n, cap, e, (hk p h3).trans h1, h2.stay fun ad e h0 => hk _ (h4 ad e h0).1, h3, h4, fun b hb => ?_⟩
  have e := hk b hb
  have h := h5 b hb
  rw [Array.getElem?_eq_getElem h] at e
  exact (Array.getElem?_eq_some_iff.1 e).1

theorem Own.emptyS (w : World) (E : TypeId) (k : IntKind) {base : Nat} (hb : base ≤ w.heap.size) : Own E k base (w.alloc (.cells #[] E)) (.slice (some ⟨w.heap.size, 0, none⟩) 0 0) [] :=
  ⟨⟨rfl, .inr ⟨w.heap.size, 0, #[], rfl, hb, heap_alloc_new w _, Nat.le_refl _, Nat.zero_le _, rfl, rfl⟩⟩, fun _ h => by cases h⟩
/-- bytes.Clone. -/
theorem bclone_to (ao : Option Addr) (n cap : Nat) (xs : List Int) (w : World) (hr : Rd .u8 w ao n cap xs) (hn : n ≤ 65536) :
    Calls Tryd.prog 22 #[.slice ao n cap] w fun e w' => ∃ v, e = .returned v ∧ Own 5 .u8 w.heap.size w' v xs ∧ Below w.heap.size w w' := by
  cases ao with
  | none =>
    have hc := hr.nil rfl
    have hn : n = 0 := by have := hr.le; omega
    have hx : xs = [] := List.eq_nil_of_length_eq_zero (by rw [hr.len]; exact hn)
    subst hc hn hx
    have he := fun w => Lib.run_eql_slice_nil (P := Tryd.prog) w 30 5 none 0 0 0 0 Tryd.underlying30
    clear hr
    go_enter Tryd.func22, Tryd.ntmps22
    go_wp2_with fail
    go_ret
    exact ⟨_, rfl, Own.nil _ _ _ _, Below.refl _ _⟩
  | some ad =>
    have HR := hid hr
    clear hr
    have he := fun w => Lib.run_eql_slice_nil (P := Tryd.prog) w 30 5 (some ad) n cap 0 0 Tryd.underlying30
    go_enter Tryd.func22, Tryd.ntmps22
    go_wp2_with (at_builtin; apply stopAt')
    refine hid ?_
    refine wpList_append_rd rfl (.tmp 5) (.tmp 6) 30 rfl 5 .u8 w.heap.size 1 Tryd.underlying30 infoU8 _ [] rfl (Own.emptyS w _ _ (Nat.le_refl _)) (some ad) n cap xs rfl (HR.out.below (Bl.alloc (Bl.refl _) _)) (by simp; omega) (by simp; omega) (by simp) ?_
    intro v w2 h1 h2 _
    have H := hid (And.intro h1 ((Bl.alloc (Bl.refl w) (.cells #[] 5)).trans h2))
    clear h1 h2
    go_wp2_with fail
    go_ret
    have := H.out
    simp only [List.nil_append] at this
    exact ⟨v, rfl, this.1, this.2⟩
theorem suText_to (B : Nat → Prop) (s : Sp) (q : Addr) (w : World) (h : SuAt B s q w) (hl : s.text.length ≤ 65536) :
    Calls Tryd.prog 14 #[.pointer (some q)] w fun e w' => ∃ ao cap, e = .returned (.slice ao s.text.length cap) ∧ Rd .u8 w' ao s.text.length cap s.text ∧ Below w.heap.size w w' := by
  obtain ⟨p, ao, n, cap, rfl, h1, h2, h3, h4, h5⟩ := h
  have hc := h1.cell 2
  have hcl := bclone_to ao n cap s.text w h2 (by rw [← h2.len]; exact hl)
  simp at hc
  clear h1 h2 h3 h4 h5
  go_enter Tryd.func14, Tryd.ntmps14
  go_wp2_with fail
  refine hcl.mono ?_
  rintro e w' ⟨v, rfl, hv, hb⟩
  obtain ⟨vo, vc, rfl, hr⟩ := hv.rd
  have HB := hid (And.intro hr hb)
  clear hv hr hb hcl
  go_wp2_with fail
  go_ret
  exact ⟨vo, vc, rfl, HB.out.1, HB.out.2⟩
theorem suTurn_to (B : Nat → Prop) (s : Sp) (q : Addr) (w : World) (h : SuAt B s q w) :
    Calls Tryd.prog 15 #[.pointer (some q)] w fun e w' => e = .returned (.int .i64 s.turn) ∧ Below w.heap.size w w' := by
  obtain ⟨p, ao, n, cap, rfl, h1, h2, h3, h4, h5⟩ := h
  have hc := h1.cell 1
  simp at hc
  clear h1 h2 h3 h4 h5
  go_enter Tryd.func15, Tryd.ntmps15
  go_wp2_with fail
  go_ret
  exact ⟨rfl, Below.refl _ _⟩
theorem suText_no (w : World) : Calls Tryd.prog 14 #[.pointer none] w fun e w' => e = .returned (.slice none 0 0) ∧ Below w.heap.size w w' := by
  go_enter Tryd.func14, Tryd.ntmps14
  go_wp2_with fail
  go_ret
  exact ⟨rfl, Below.refl _ _⟩
theorem suTurn_no (w : World) : Calls Tryd.prog 15 #[.pointer none] w fun e w' => e = .returned (.int .i64 0) ∧ Below w.heap.size w w' := by
  go_enter Tryd.func15, Tryd.ntmps15
  go_wp2_with fail
  go_ret
  exact ⟨rfl, Below.refl _ _⟩
theorem suSave_no (w : World) (ao : Option Addr) (n cap : Nat) : Calls Tryd.prog 11 #[.pointer none, .slice ao n cap] w fun e w' => e = .returned (.int .i64 10) ∧ Below w.heap.size w w' := by
  go_enter Tryd.func11, Tryd.ntmps11
  go_wp2_with fail
  go_ret
  exact ⟨rfl, Below.refl _ _⟩
theorem suSave_long (q : Addr) (w : World) (ao : Option Addr) (n cap : Nat) (hn : 40 < n) : Calls Tryd.prog 11 #[.pointer (some q), .slice ao n cap] w fun e w' => e = .returned (.int .i64 1) ∧ Below w.heap.size w w' := by
  have h1 : (40 : Int) < (n : Int) := by omega
  clear hn
  go_enter Tryd.func11, Tryd.ntmps11
  go_wp2_with fail
  go_ret
  exact ⟨rfl, Below.refl _ _⟩

theorem fits_to (X : DevSpec) (A : Nat → Prop) (M : Dv) (p : Addr) (w : World) (i : Int) (h : X.At A M p w) :
    Calls Tryd.prog 21 #[.pointer (some p), .int .i64 i] w fun e w' => e = .returned (.bool (decide (0 ≤ i ∧ i < (M.now.length : Int) - 1))) ∧ Below w.heap.size w w' := by
  have hl := X.len_to A M p w h
  have h2 := (X.ok h).n2
  obtain ⟨m, hm⟩ : ∃ m, M.now.length = m := ⟨_, rfl⟩
  rw [hm] at hl h2 ⊢
  have hw : IntKind.i64.wrap ((m : Int) - 1) = (m : Int) - 1 := IntWalk.i64_in _ (by omega)
  clear h hm
  by_cases h0 : 0 ≤ i
  · have e1 : decide (0 ≤ i ∧ i < (m : Int) - 1) = decide (i < (m : Int) - 1) := by simp [h0]
    rw [e1]
    obtain ⟨d, hd⟩ : ∃ d, decide (i < (m : Int) - 1) = d := ⟨_, rfl⟩
    have e2 : decide (i ≥ 0) = true := by simpa using h0
    rw [hd]
    clear e1
    go_enter Tryd.func21, Tryd.ntmps21
    go_wp2_with fail
    refine hl.mono ?_
    rintro e w' ⟨rfl, hb⟩
    have HB := hid hb
    clear hb hl
    go_wp2_with fail
    go_ret
    exact ⟨rfl, HB.out⟩
  · have e1 : decide (0 ≤ i ∧ i < (m : Int) - 1) = false := by simp [h0]
    rw [e1]
    clear hl e1
    go_enter Tryd.func21, Tryd.ntmps21
    go_wp2_with fail
    go_ret
    exact ⟨rfl, Below.refl _ _⟩
theorem fits_no (X : DevSpec) (w : World) (i : Int) : Calls Tryd.prog 21 #[.pointer none, .int .i64 i] w fun e w' => e = .returned (.bool false) ∧ Below w.heap.size w w' := by
  have hl := X.len_nil w
  by_cases h0 : 0 ≤ i
  · have hn : decide (i < -1) = false := by simp; omega
    go_enter Tryd.func21, Tryd.ntmps21
    go_wp2_with fail
    refine hl.mono ?_
    rintro e w' ⟨rfl, hb⟩
    have HB := hid hb
    clear hb hl
    go_wp2_with fail
    go_ret
    exact ⟨rfl, HB.out⟩
  · clear hl
    go_enter Tryd.func21, Tryd.ntmps21
    go_wp2_with fail
    go_ret
    exact ⟨rfl, Below.refl _ _⟩
theorem suOpen_no (X : DevSpec) (w : World) (i : Int) : Calls Tryd.prog 12 #[.pointer none, .int .i64 i] w fun e w' => ∃ E, e = .returned (.tuple #[.pointer none, .int .i64 E]) ∧ E ≠ 0 ∧ Below w.heap.size w w' := by
  have hf := fits_no X w i
  go_enter Tryd.func12, Tryd.ntmps12
  go_wp2_with fail
  refine hf.mono ?_
  rintro e w' ⟨rfl, hb⟩
  have HB := hid hb
  clear hb hf
  go_wp2_with fail
  go_ret2
  exact ⟨3, rfl, by decide, HB.out⟩
theorem suMake_far (X : DevSpec) (A : Nat → Prop) (M : Dv) (p : Addr) (w : World) (i : Int) (ao : Option Addr) (n cap : Nat) (h : X.At A M p w) (hn : n ≤ 40) (hi : i < 0 ∨ (M.now.length : Int) - 2 < i) :
    Calls Tryd.prog 9 #[.pointer (some p), .int .i64 i, .slice ao n cap] w fun e w' => e = .returned (.tuple #[.pointer none, .int .i64 3]) ∧ Below w.heap.size w w' := by
  have hf := fits_to X A M p w i h
  rw [show decide (0 ≤ i ∧ i < (M.now.length : Int) - 1) = false by simp; omega] at hf
  have h1 : ¬ (40 : Int) < (n : Int) := by omega
  clear h hn hi
  go_enter Tryd.func9, Tryd.ntmps9
  go_wp2_with fail
  refine hf.mono ?_
  rintro e w' ⟨rfl, hb⟩
  have HB := hid hb
  clear hb hf
  go_wp2_with fail
  go_ret2
  exact ⟨rfl, HB.out⟩
theorem suMake_long (p : Option Addr) (w : World) (i : Int) (ao : Option Addr) (n cap : Nat) (hn : 40 < n) :
    Calls Tryd.prog 9 #[.pointer p, .int .i64 i, .slice ao n cap] w fun e w' => e = .returned (.tuple #[.pointer none, .int .i64 1]) ∧ Below w.heap.size w w' := by
  have h1 : (40 : Int) < (n : Int) := by omega
  clear hn
  go_enter Tryd.func9, Tryd.ntmps9
  go_wp2_with fail
  go_ret2
  exact ⟨rfl, Below.refl _ _⟩
end Go.Proofs.YtpfcopdckjedfaaDoor
