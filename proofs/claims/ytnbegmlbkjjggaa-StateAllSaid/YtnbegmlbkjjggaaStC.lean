/- state's laws: diapauselaw13.cut. Written by gen_stcut.py. -/
import Derived.Test.YtnbegmlbkjjggaaStM
namespace Go.Proofs.Ytnbegmlbkjjggaa
open Go.RowKit
set_option linter.unusedVariables false

theorem stopHere {p : Prop} (h : Hid p) : p := h.out
def cutF (f : Fm) : Fm := ⟨f.fn, f.pc, f.ls.take 34, f.base, f.lb.take 42⟩
def cutS (S : St) : St := ⟨S.vs.take 30, (S.fs.take 34).map cutF, S.asks⟩
theorem infoFr : (Try.prog.info? 42).map (fun i => (i.zero, i.size, i.bytes)) = some (some (.agg #[.int .i64 0, .int .i64 0, .slice none 0 0, .int .i64 0, .slice none 0 0]), 5, 72) := by kernel_rfl
theorem infoSt : (Try.prog.info? 25).map (fun i => (i.zero, i.size, i.bytes)) = some (some (.agg #[.slice none 0 0, .slice none 0 0, .int .i64 0]), 3, 56) := by kernel_rfl
/-- A row of pairs is read by its own block alone. -/
theorem OwnG.pa {E : TypeId} {B : Nat} {w : World} {v : Value} {xs : List (Int × Int)} (h : OwnG E 2 PaR B w v xs) : ∃ ao cap, v = .slice ao xs.length cap ∧ Bx (fun b => v.ownBlock = some b) w fun w => RdG 2 PaR w ao xs.length cap xs := by
  obtain ⟨ao, cap, rfl, hr⟩ := h.rx
  refine ⟨ao, cap, rfl, fun w' h' => ?_⟩
  have h0 := hr.now
  refine ⟨h0.len, h0.le, h0.max, h0.nil, fun i x hi => ?_⟩
  obtain ⟨b, off, cs, e, hl, hR, hc⟩ := h0.cell i x hi
  obtain ⟨css, hl2, ho, _⟩ := h.row
  refine ⟨b, off, cs, e, hl, hR, fun j v hj => (World.cell?_of_block (h' _ ?_)).trans (hc j v hj)⟩
  rcases ho.row.2 with ⟨e1, _⟩ | ⟨g, cap', cur, e1, _⟩
  · simp at e1; rw [e] at e1; simp at e1
  · simp at e1; rw [e] at e1; simp at e1; rw [e]; rfl
theorem OwnG.ne_at {α : Type} {E T : TypeId} {s B q : Nat} {R : World → List Value → α → Prop} {w : World} {v : Value} {xs : List α} {arr : Array Value} (h : OwnG E s R B w v xs) (hq : w.heap[q]? = some (.cells arr T (0, 0))) (hT : T ≠ E) : v.ownBlock ≠ some q := by
  intro e
  obtain ⟨css, _, ho, _⟩ := h.row
  rcases ho.row.2 with ⟨rfl, _⟩ | ⟨g, cap, cur, rfl, _, hg, _⟩
  · cases e
  · cases e
    rw [hq] at hg
    cases hg
    exact hT rfl
theorem OwnG.bxq {E T : TypeId} {B q : Nat} {w : World} {v : Value} {xs : List (Int × Int)} {arr : Array Value} (h : OwnG E 2 PaR B w v xs) (hq : w.heap[q]? = some (.cells arr T (0, 0))) (hT : T ≠ E) : ∃ ao cap, v = .slice ao xs.length cap ∧ Bx (fun b => B ≤ b ∧ b < w.heap.size ∧ b ≠ q) w fun w => RdG 2 PaR w ao xs.length cap xs := by
  obtain ⟨ao, cap, e, hb⟩ := h.pa
  exact ⟨ao, cap, e, hb.more fun b hb => ⟨(h.lt b hb).1, (h.lt b hb).2, fun e => h.ne_at hq hT (by rw [hb, e])⟩⟩
def IsS1 (B : Nat) (xs : List (Int × Int)) (asks : Int) : Value → World → Prop := fun v w => ∃ o n c, v = .agg #[.slice o n c, .slice none 0 0, .int .i64 asks] ∧ OwnG 39 2 PaR B w (.slice o n c) xs
theorem Stays.s1 (B : Nat) (xs : List (Int × Int)) (asks : Int) : Stays (IsS1 B xs asks) := fun _ _ _ ⟨o, n, c, e, h⟩ hb => ⟨o, n, c, e, OwnG.below h hb (Nat.le_refl _)⟩
def IsF1 (B : Nat) (a b : Int) (xs : List (Int × Int)) (d : Int) : Value → World → Prop := fun v w => ∃ o n c, v = .agg #[.int .i64 a, .int .i64 b, .slice o n c, .int .i64 d, .slice none 0 0] ∧ OwnG 39 2 PaR B w (.slice o n c) xs
theorem Stays.f1 (B : Nat) (a b : Int) (xs : List (Int × Int)) (d : Int) : Stays (IsF1 B a b xs d) := fun _ _ _ ⟨o, n, c, e, h⟩ hb => ⟨o, n, c, e, OwnG.below h hb (Nat.le_refl _)⟩
def IsBq (T : TypeId) (Z : List Value) (B : Nat) : Value → World → Prop := fun v w => ∃ q : Nat, v = .pointer (some ⟨q, 0, none⟩) ∧ B ≤ q ∧ w.heap[q]? = some (.cells Z.toArray T (0, 0))
theorem Stays.bq (T : TypeId) (Z : List Value) (B : Nat) : Stays (IsBq T Z B) := fun _ _ _ ⟨q, e, h, hq⟩ hb => ⟨q, e, h, (hb.block q (Array.getElem?_eq_some_iff.1 hq).1).trans hq⟩
theorem Cel.of_heap {w : World} {q : Nat} {T : TypeId} {Z : List Value} (hq : w.heap[q]? = some (.cells Z.toArray T (0, 0))) : Cel w q Z := ⟨fun i v hi => by unfold World.cell?; dsimp only; rw [hq]; simpa using hi, fun i v hi => by unfold World.frozen?; dsimp only; rw [hq]; simp⟩
theorem Cel.bx {w : World} {q : Nat} {cs : List Value} {C : Nat → Prop} (h : Cel w q cs) (hq : C q) : Bx C w fun w => Cel w q cs := fun w' h' => h.same (h' q hq)
theorem RdG.short2 {w : World} {ao : Option Addr} {n cap : Nat} {xs : List (Int × Int)} (h : RdG 2 PaR w ao n cap xs) : xs.length = n := h.len

set_option maxRecDepth 100000 in
set_option maxHeartbeats 8000000 in
theorem cut_to (V : SV) (S : St) (w : World) (h : StR V S w) :
    Calls Try.prog 9 #[.agg (V.cells S).toArray] w fun e w' => ∃ V' : SV, e = .returned (.agg (V'.cells (cutS S)).toArray) ∧ Bx (fun b => w.heap.size ≤ b ∧ b < w'.heap.size) w' (StR V' (cutS S)) ∧ Below w.heap.size w w' := by
  obtain ⟨vo, vn, vc, fo, fn, fc⟩ := V
  obtain ⟨vs, fs, asks⟩ := S
  simp only [SV.cells]
  have HV := hid h.v
  have HF := hid h.f
  have HAW := hid h.a
  simp only at HV HF HAW
  have hf63 := HF.out.cap63.1
  have HLF := hid HF.out.len
  obtain ⟨w0, hw0⟩ : ∃ w0, ((w.alloc (.cells #[.slice vo vn vc, .slice fo fn fc, .int .i64 asks] 25)).alloc (.cells #[.slice none 0 0, .slice none 0 0, .int .i64 0] 25)) = w0 := ⟨_, rfl⟩
  obtain ⟨p, hp⟩ : ∃ p, w.heap.size = p := ⟨_, rfl⟩
  have hb0 : Below p w w0 := by rw [← hw0, ← hp]; exact Bl.alloc (Bl.alloc (Bl.refl _) _) _
  have hx0 : Cel w0 p [.slice vo vn vc, .slice fo fn fc, .int .i64 asks] := by rw [← hw0, ← hp]; exact (Cel.new w [.slice vo vn vc, .slice fo fn fc, .int .i64 asks] 25).below (Nat.succ_pos _) (Bl.alloc (Bl.refl _) _)
  have hz1 : (w.alloc (.cells #[.slice vo vn vc, .slice fo fn fc, .int .i64 asks] 25)).heap.size = p + 1 := by simp [hp]
  have hr0 : Cel w0 (p + 1) [.slice none 0 0, .slice none 0 0, .int .i64 0] := by
    have := Cel.new (w.alloc (.cells #[.slice vo vn vc, .slice fo fn fc, .int .i64 asks] 25)) [.slice none 0 0, .slice none 0 0, .int .i64 0] 25
    rw [hz1] at this
    rw [← hw0]; exact this
  have hz0 : w0.heap.size = p + 2 := by rw [← hw0]; simp [hp]
  have HB0 := hid hb0; have HX0 := hid hx0; have HR0 := hid hr0; have HZ0 := hid hz0; have HW0 := hid hw0; have HP := hid hp
  clear h hb0 hx0 hz0 hw0 hp hr0 hz1
  go_enter Try.func9, Try.ntmps9
  go_wp2_with fail
  rw [HW0.out, HP.out]
  refine wp_region_below_tail 7 (by kernel_rfl) [Is ?vA0, Is (.slice vo vn vc), IsOg 39 2 PaR (p + 2) (vs.take 30), Is ?vA3, Is (.int .i64 asks), IsS1 (p + 2) (vs.take 30) asks, IsBq 25 [.slice none 0 0, .slice none 0 0, .int .i64 0] (p + 2)] _ rfl (by kernel_rfl) rfl (by kernel_rfl) ?hopA ?hstA ?hendA
  case hopA =>
    refine ⟨rq _ _ _ [(1, .pointer (some ⟨p, 0, none⟩))] ⟨⟨by kernel_rfl, rfl⟩, trivial⟩ ?_, ?_⟩
    · intro a w1 hC e1
      refine Or.inl ⟨_, ?_, rfl⟩
      go_simp
      rfl
    refine ⟨rq _ _ _ [] trivial ?_, ?_⟩
    · intro a w1 hC  (h0 : a.tmps.getD 8 undef = _)
      refine Or.inl ⟨.slice vo vn vc, ?_, rfl⟩
      have f0 := (HX0.out.below (Nat.succ_pos _) hC).cell 0 _ rfl
      go_simp
    refine ⟨rq _ _ _ [] trivial ?_, ?_⟩
    · intro a w1 hC  (h1 : a.tmps.getD 9 undef = _)
      refine Or.inr (Or.inl ⟨20, #[.slice vo vn vc, .int .i64 30], ?_, ?_⟩)
      · go_simp
      · refine (vals_to 30 30 rfl (by decide) vo vn vc vs w1 (HV.out.below2 (by rw [HP.out]; exact HB0.out.trans (hC.mono (by rw [HZ0.out]; omega))))).mono ?_
        rintro e w2 ⟨vv, rfl, hown, hbel⟩
        exact ⟨_, rfl, hown.lift (by have := hC.size; rw [HZ0.out] at this; exact this), hbel⟩
    refine ⟨rq _ _ _ [(1, .pointer (some ⟨p, 0, none⟩))] ⟨⟨by kernel_rfl, rfl⟩, trivial⟩ ?_, ?_⟩
    · intro a w1 hC e1
      refine Or.inl ⟨_, ?_, rfl⟩
      go_simp
      rfl
    refine ⟨rq _ _ _ [] trivial ?_, ?_⟩
    · intro a w1 hC  (h3 : a.tmps.getD 11 undef = _)
      refine Or.inl ⟨.int .i64 asks, ?_, rfl⟩
      have f0 := (HX0.out.below (Nat.succ_pos _) hC).cell 2 _ rfl
      go_simp
    refine ⟨rq _ _ _ [] trivial ?_, ?_⟩
    · intro a w1 hC  h2 (h4 : a.tmps.getD 12 undef = _)
      obtain ⟨o1, c1, e1, _⟩ := OwnG.pa h2
      have e2 := e1
      have e1 : a.tmps.getD 10 undef = _ := e1
      rw [Array.getD_eq_getD_getElem?] at e1
      have h4z : a.tmps[12]?.getD undef = .int .i64 asks := by simpa using h4
      refine Or.inl ⟨.agg #[.slice o1 _ c1, .slice none 0 0, .int .i64 asks], ?_, ⟨o1, _, c1, rfl, by rw [← e2]; exact h2⟩⟩
      go_simp
    refine ⟨rq _ _ _ [] trivial ?_, ?_⟩
    · intro a w1 hC
      refine Or.inr (Or.inr ⟨.pointer (some ⟨w1.heap.size, 0, none⟩), w1.alloc (.cells #[.slice none 0 0, .slice none 0 0, .int .i64 0] 25), ?_, ⟨_, rfl, by have := hC.size; rw [HZ0.out] at this; exact this, heap_alloc_new w1 _⟩, Bl.alloc (Bl.refl _) _⟩)
      go_simp
    exact trivial
  case hstA => repeat (first | exact trivial | refine ⟨Stays.is _, ?_⟩ | refine ⟨Stays.og _ _ _ _ _, ?_⟩ | refine ⟨Stays.s1 _ _ _, ?_⟩ | refine ⟨Stays.bq _ _ _, ?_⟩)
  case hendA =>
    intro w1 hC
    rintro _ rfl _ rfl
    intro x2 h2
    rintro _ rfl _ rfl
    intro x5 h5
    intro x6 h6
    obtain ⟨q, rfl, hpq, hqh⟩ := h6
    obtain ⟨po, pn, pc, rfl, hof⟩ := h5
    have hs1 := hC.size
    rw [HZ0.out] at hs1
    have hcq : Cel w1 q [.slice none 0 0, .slice none 0 0, .int .i64 0] := Cel.of_heap hqh
    obtain ⟨ao, cap, hsl, hbx⟩ := hof.bxq hqh (by decide)
    obtain ⟨mm, hmm⟩ : ∃ n, (vs.take 30).length = n := ⟨_, rfl⟩
    rw [hmm] at hsl hbx
    obtain ⟨rfl, rfl, rfl⟩ : po = ao ∧ pn = mm ∧ pc = cap := by simpa using hsl
    have hq2 : q < w1.heap.size := (Array.getElem?_eq_some_iff.1 hqh).1
    obtain ⟨ws, hws⟩ : ∃ ws, (((w1.setCell ⟨q, 0, none⟩ (.slice po pn pc)).setCell ⟨q, 1, none⟩ (.slice none 0 0)).setCell ⟨q, 2, none⟩ (.int .i64 asks)) = ws := ⟨_, rfl⟩
    have hgA : w1.grownBy ws (some q) := by rw [← hws]; exact (gr_set (gr_set (gr_set (gr_refl _ _) 0 _) 1 _) 2 _)
    have hcs : Cel ws q [.slice po pn pc, .slice none 0 0, .int .i64 asks] := hws ▸ (((hcq.set 0 (.slice po pn pc) (by simp)).set 1 (.slice none 0 0) (by simp)).set 2 (.int .i64 asks) (by simp))
    have a0 := hcq.cell 0 _ rfl
    have a1 := hcq.cell 1 _ rfl
    have a2 := hcq.cell 2 _ rfl
    have fa0 := hcq.fro 0 _ rfl
    have fa1 := hcq.fro 1 _ rfl
    have fa2 := hcq.fro 2 _ rfl
    have HC := hid hcs; have HWS := hid hws
    have hblk : ∀ b, b < w1.heap.size → b ≠ q → ws.heap[b]? = w1.heap[b]? := fun b hb hne => hgA.block b hb (fun e => hne (by simpa using e))
    have HB : Hid (Below (p + 2) w0 ws) := hid (gr_blK (hC.mono (by rw [HZ0.out]; exact Nat.le_refl _)) hgA hs1 hpq)
    have hsz : ws.heap.size = w1.heap.size := by rw [← hws]; simp
    obtain ⟨S, hS⟩ : ∃ S, ws.heap.size = S := ⟨_, rfl⟩
    have HPS : Hid (Bx (fun b => p + 2 ≤ b ∧ b < S ∧ b ≠ q) ws (fun w => RdG 2 PaR w po pn pc (vs.take 30))) := hid (by
      rw [← hS, hsz]
      exact hbx.keep fun b hb => hblk b hb.2.1 hb.2.2)
    have hqS : q < S := by omega
    have HSS : Hid (S ≤ ws.heap.size) := hid (Nat.le_of_eq hS.symm)
    have hpS : p + 2 ≤ S := by omega
    clear hof hsl hbx hws hgA hcs hblk hmm hqh hcq hC hs1 hsz hS
    simp only [Ends, Act.put, List.setIfInBounds_toArray, List.set_cons_succ, List.set_cons_zero, List.drop_succ_cons, List.drop_zero]
    go_upto_block 0 with fail
    clear a0 a1 a2 fa0 fa1 fa2 hq2
    rw [HWS.out]
    clear HWS
    go_wp2_with fail
    go_loopw [4] (fun i wr => ∃ (k : Nat) (v : Value), k ≤ fn ∧ k ≤ 34 ∧ i = .int .i64 k ∧ Hid (Below (p + 2) w0 wr) ∧ Hid (Cel wr q [.slice po pn pc, v, .int .i64 asks]) ∧ Hid (OwnG 42 5 FrR S wr v ((fs.take k).map cutF)) ∧ Hid (Bx (fun b => p + 2 ≤ b ∧ b < S ∧ b ≠ q) wr (fun w => RdG 2 PaR w po pn pc (vs.take 30))) ∧ Hid (S ≤ wr.heap.size)) (fun i _ => 34 - (intOf i).toNat)
    case atStart => exact ⟨0, _, Nat.zero_le _, Nat.zero_le _, rfl, HB, HC, hid (by simpa using OwnG.nil _ _ _ _ _), HPS, HSS⟩
    case round =>
      clear HB HC HPS HSS
      obtain ⟨k, v, hkn, hk34, rfl, HB, HC, HO, HPR, HSR⟩ := hrel
      have hsr := HSR.out
      obtain ⟨ro, rc, rfl, hsh1, hsh2, _⟩ := HO.out.shape
      have hll : ((fs.take k).map cutF).length = k := by simp [HLF.out]; omega
      rw [hll] at HO HC hsh1
      have HLL := hid hll; clear hll
      have HX := hid (HX0.out.keep (show p < p + 2 by omega) HB.out)
      have g1 := HX.out.cell 1 _ rfl
      have hpr : p < wr.heap.size := by omega
      have HBW : Hid (Below p w wr) := hid (HB0.out.trans (HB.out.mono (by omega)))
      by_cases hk : k < fn ∧ k < 34
      ·
        obtain ⟨hk, hk3⟩ := hk
        have dk : decide ((k : Int) < 34) = true := by simp; omega
        have dk2 : decide ((k : Int) < (fn : Int)) = true := by simp; omega
        obtain ⟨b, off, f, lo, ln, lc, bo, bn, bc, rfl, hfk, h0, h1, h2, h3, h4, hl, hB, hw1, hw2, hw3⟩ := (HF.out.below5 (by rw [HP.out]; exact HBW.out)).at5 hk
        obtain ⟨F1, F2, F3, F4, F5⟩ := f
        simp only at h0 h1 h2 h3 h4 hl hB hw1 hw2 hw3
        have htf : (fs.take (k + 1)).map cutF = (fs.take k).map cutF ++ [⟨F1, F2, F3.take 34, F4, F5.take 42⟩] := by
          rw [List.take_add_one, hfk]
          simp [cutF]
        have HTF := hid htf; clear htf
        have HL := hid hl; have HBl := hid hB; have HWF := hid (And.intro hw1 (And.intro hw2 hw3))
        have HBL := hid hB.len
        have hb63 := hB.cap63.1
        clear hfk hl hB hw1 hw2 hw3
        go_wp2_with fail
        obtain ⟨w3, hw3⟩ : ∃ w3, wr.alloc (.cells #[.int .i64 F1, .int .i64 F2, .slice lo ln lc, .int .i64 F4, .slice bo bn bc] 42) = w3 := ⟨_, rfl⟩
        obtain ⟨m, hm⟩ : ∃ m, wr.heap.size = m := ⟨_, rfl⟩
        have hcm : Cel w3 m [.int .i64 F1, .int .i64 F2, .slice lo ln lc, .int .i64 F4, .slice bo bn bc] := by rw [← hw3, ← hm]; exact Cel.new wr _ _
        have HB3 : Hid (Below m wr w3) := hid (by rw [← hw3, ← hm]; exact Bl.alloc (Bl.refl _) _)
        have hzm : w3.heap.size = m + 1 := by rw [← hw3]; simp [hm]
        rw [hw3, hm]
        have HM := hid hm; have HZM := hid hzm; have HCM := hid hcm
        clear hw3 hm hzm hcm h0 h1 h2 h3 h4 g1
        refine wp_region_below_tail 11 (by kernel_rfl) [Is ?vB0, Is (.int .i64 F1), Is ?vB2, Is (.int .i64 F2), Is ?vB4, Is (.slice lo ln lc), IsOg 39 2 PaR (m + 1) (F3.take 34), Is ?vB7, Is (.int .i64 F4), IsF1 (m + 1) F1 F2 (F3.take 34) F4, IsBq 42 [.int .i64 0, .int .i64 0, .slice none 0 0, .int .i64 0, .slice none 0 0] (m + 1)] _ rfl (by kernel_rfl) rfl (by kernel_rfl) ?hopB ?hstB ?hendB
        case hopB =>
          refine ⟨rq _ _ _ [(5, .pointer (some ⟨m, 0, none⟩))] ⟨⟨by kernel_rfl, rfl⟩, trivial⟩ ?_, ?_⟩
          · intro a w1 hC e5
            refine Or.inl ⟨_, ?_, rfl⟩
            go_simp
            rfl
          refine ⟨rq _ _ _ [] trivial ?_, ?_⟩
          · intro a w1 hC  (h0 : a.tmps.getD 30 undef = _)
            refine Or.inl ⟨.int .i64 F1, ?_, rfl⟩
            have f0 := (HCM.out.below (Nat.succ_pos _) hC).cell 0 _ rfl
            go_simp
          refine ⟨rq _ _ _ [(5, .pointer (some ⟨m, 0, none⟩))] ⟨⟨by kernel_rfl, rfl⟩, trivial⟩ ?_, ?_⟩
          · intro a w1 hC e5
            refine Or.inl ⟨_, ?_, rfl⟩
            go_simp
            rfl
          refine ⟨rq _ _ _ [] trivial ?_, ?_⟩
          · intro a w1 hC  (h2 : a.tmps.getD 32 undef = _)
            refine Or.inl ⟨.int .i64 F2, ?_, rfl⟩
            have f0 := (HCM.out.below (Nat.succ_pos _) hC).cell 1 _ rfl
            go_simp
          refine ⟨rq _ _ _ [(5, .pointer (some ⟨m, 0, none⟩))] ⟨⟨by kernel_rfl, rfl⟩, trivial⟩ ?_, ?_⟩
          · intro a w1 hC e5
            refine Or.inl ⟨_, ?_, rfl⟩
            go_simp
            rfl
          refine ⟨rq _ _ _ [] trivial ?_, ?_⟩
          · intro a w1 hC  (h4 : a.tmps.getD 34 undef = _)
            refine Or.inl ⟨.slice lo ln lc, ?_, rfl⟩
            have f0 := (HCM.out.below (Nat.succ_pos _) hC).cell 2 _ rfl
            go_simp
          refine ⟨rq _ _ _ [] trivial ?_, ?_⟩
          · intro a w1 hC  (h5 : a.tmps.getD 35 undef = _)
            refine Or.inr (Or.inl ⟨20, #[.slice lo ln lc, .int .i64 34], ?_, ?_⟩)
            · go_simp
            · refine (vals_to 34 34 rfl (by decide) lo ln lc F3 w1 (HL.out.below2 (by rw [HM.out]; exact HB3.out.trans (hC.mono (by rw [HZM.out]; omega))))).mono ?_
              rintro e w2 ⟨vv, rfl, hown, hbel⟩
              exact ⟨_, rfl, hown.lift (by have := hC.size; rw [HZM.out] at this; exact this), hbel⟩
          refine ⟨rq _ _ _ [(5, .pointer (some ⟨m, 0, none⟩))] ⟨⟨by kernel_rfl, rfl⟩, trivial⟩ ?_, ?_⟩
          · intro a w1 hC e5
            refine Or.inl ⟨_, ?_, rfl⟩
            go_simp
            rfl
          refine ⟨rq _ _ _ [] trivial ?_, ?_⟩
          · intro a w1 hC  (h7 : a.tmps.getD 37 undef = _)
            refine Or.inl ⟨.int .i64 F4, ?_, rfl⟩
            have f0 := (HCM.out.below (Nat.succ_pos _) hC).cell 3 _ rfl
            go_simp
          refine ⟨rq _ _ _ [] trivial ?_, ?_⟩
          · intro a w1 hC  (h1 : a.tmps.getD 31 undef = _) (h3 : a.tmps.getD 33 undef = _) h6 (h8 : a.tmps.getD 38 undef = _)
            obtain ⟨o1, c1, e1, _⟩ := OwnG.pa h6
            have e2 := e1
            have e1 : a.tmps.getD 36 undef = _ := e1
            rw [Array.getD_eq_getD_getElem?] at e1
            have h1z : a.tmps[31]?.getD undef = .int .i64 F1 := by simpa using h1
            have h3z : a.tmps[33]?.getD undef = .int .i64 F2 := by simpa using h3
            have h8z : a.tmps[38]?.getD undef = .int .i64 F4 := by simpa using h8
            refine Or.inl ⟨.agg #[.int .i64 F1, .int .i64 F2, .slice o1 _ c1, .int .i64 F4, .slice none 0 0], ?_, ⟨o1, _, c1, rfl, by rw [← e2]; exact h6⟩⟩
            go_simp
          refine ⟨rq _ _ _ [] trivial ?_, ?_⟩
          · intro a w1 hC
            refine Or.inr (Or.inr ⟨.pointer (some ⟨w1.heap.size, 0, none⟩), w1.alloc (.cells #[.int .i64 0, .int .i64 0, .slice none 0 0, .int .i64 0, .slice none 0 0] 42), ?_, ⟨_, rfl, by have := hC.size; rw [HZM.out] at this; exact this, heap_alloc_new w1 _⟩, Bl.alloc (Bl.refl _) _⟩)
            go_simp
          exact trivial
        case hstB => repeat (first | exact trivial | refine ⟨Stays.is _, ?_⟩ | refine ⟨Stays.og _ _ _ _ _, ?_⟩ | refine ⟨Stays.f1 _ _ _ _ _, ?_⟩ | refine ⟨Stays.bq _ _ _, ?_⟩)
        case hendB =>
          intro w1 hC
          rintro _ rfl _ rfl _ rfl _ rfl _ rfl _ rfl
          intro x6 h6
          rintro _ rfl _ rfl
          intro x9 h9
          intro x10 h10
          obtain ⟨g, rfl, hmg, hgh⟩ := h10
          obtain ⟨lo2, ln2, lc2, rfl, hol⟩ := h9
          have hs1 := hC.size
          rw [HZM.out] at hs1
          have hcg : Cel w1 g [.int .i64 0, .int .i64 0, .slice none 0 0, .int .i64 0, .slice none 0 0] := Cel.of_heap hgh
          obtain ⟨ao, cap, hsl, hbx⟩ := hol.bxq hgh (by decide)
          obtain ⟨mm, hmm⟩ : ∃ n, (F3.take 34).length = n := ⟨_, rfl⟩
          rw [hmm] at hsl hbx
          obtain ⟨rfl, rfl, rfl⟩ : lo2 = ao ∧ ln2 = mm ∧ lc2 = cap := by simpa using hsl
          have hg2 : g < w1.heap.size := (Array.getElem?_eq_some_iff.1 hgh).1
          obtain ⟨w4, hw4⟩ : ∃ w4, (((((w1.setCell ⟨g, 0, none⟩ (.int .i64 F1)).setCell ⟨g, 1, none⟩ (.int .i64 F2)).setCell ⟨g, 2, none⟩ (.slice lo2 ln2 lc2)).setCell ⟨g, 3, none⟩ (.int .i64 F4)).setCell ⟨g, 4, none⟩ (.slice none 0 0)) = w4 := ⟨_, rfl⟩
          have hgA : w1.grownBy w4 (some g) := by rw [← hw4]; exact (gr_set (gr_set (gr_set (gr_set (gr_set (gr_refl _ _) 0 _) 1 _) 2 _) 3 _) 4 _)
          have hcs : Cel w4 g [.int .i64 F1, .int .i64 F2, .slice lo2 ln2 lc2, .int .i64 F4, .slice none 0 0] := hw4 ▸ (((((hcg.set 0 (.int .i64 F1) (by simp)).set 1 (.int .i64 F2) (by simp)).set 2 (.slice lo2 ln2 lc2) (by simp)).set 3 (.int .i64 F4) (by simp)).set 4 (.slice none 0 0) (by simp))
          have a0 := hcg.cell 0 _ rfl
          have fa0 := hcg.fro 0 _ rfl
          have a1 := hcg.cell 1 _ rfl
          have fa1 := hcg.fro 1 _ rfl
          have a2 := hcg.cell 2 _ rfl
          have fa2 := hcg.fro 2 _ rfl
          have a3 := hcg.cell 3 _ rfl
          have fa3 := hcg.fro 3 _ rfl
          have a4 := hcg.cell 4 _ rfl
          have fa4 := hcg.fro 4 _ rfl
          have HG := hid hcs; have HW4 := hid hw4
          have hblk : ∀ b, b < w1.heap.size → b ≠ g → w4.heap[b]? = w1.heap[b]? := fun b hb hne => hgA.block b hb (fun e => hne (by simpa using e))
          have HB4 : Hid (Below m wr w4) := hid (gr_blK (HB3.out.trans (hC.mono (by rw [HZM.out]; omega))) hgA (by omega) (by omega))
          have hsz : w4.heap.size = w1.heap.size := by rw [← hw4]; simp
          have hcm1 := HCM.out.below (Nat.succ_pos _) hC
          obtain ⟨S4, hS4⟩ : ∃ S, w4.heap.size = S := ⟨_, rfl⟩
          have HPL : Hid (Bx (fun b => m ≤ b ∧ b < S4 ∧ b ≠ g) w4 (fun w => RdG 2 PaR w lo2 ln2 lc2 (F3.take 34) ∧ Cel w m [.int .i64 F1, .int .i64 F2, .slice lo ln lc, .int .i64 F4, .slice bo bn bc])) := hid (by
            rw [← hS4, hsz]
            exact ((hbx.more fun b hb => ⟨by omega, hb.2⟩).imp2 (hcm1.bx ⟨Nat.le_refl m, by omega, by omega⟩) fun w a b => ⟨a, b⟩).keep fun b hb => hblk b hb.2.1 hb.2.2)
          have hgS : g < S4 := by omega
          have HSS4 : Hid (S4 ≤ w4.heap.size) := hid (Nat.le_of_eq hS4.symm)
          have hmS : m + 1 ≤ S4 := by omega
          clear hol hsl hbx hw4 hgA hcs hblk hmm hgh hcg hC hs1 hsz hS4 hcm1
          simp only [Ends, Act.put, List.setIfInBounds_toArray, List.set_cons_succ, List.set_cons_zero, List.drop_succ_cons, List.drop_zero]
          go_upto_block 2 with fail
          clear a0 a1 a2 a3 a4 fa0 fa1 fa2 fa3 fa4 hg2
          rw [HW4.out]
          clear HW4
          go_cut [7] from 40 to 60 (fun u wc => ∃ (jj : Nat) (bo2 : Option Addr) (bn2 bc2 : Nat), u = .int .i64 jj ∧ Hid (Below m wr wc) ∧ Hid (Cel wc g [.int .i64 F1, .int .i64 F2, .slice lo2 ln2 lc2, .int .i64 F4, .slice bo2 bn2 bc2]) ∧ Hid (Bx (fun b => m ≤ b ∧ b < wc.heap.size ∧ b ≠ g) wc (fun w => RdG 2 PaR w lo2 ln2 lc2 (F3.take 34) ∧ RdG 2 PaR w bo2 bn2 bc2 (F5.take 42))) ∧ Hid (g < wc.heap.size))
          case first =>
            obtain ⟨wo, rfl⟩ : ∃ wo : World, wo = wr := ⟨_, rfl⟩
            go_wp2_with fail
            go_loopw [7] (fun i wr => ∃ (j : Nat) (v : Value), j ≤ bn ∧ j ≤ 42 ∧ i = .int .i64 j ∧ Hid (Below m wo wr) ∧ Hid (Cel wr g [.int .i64 F1, .int .i64 F2, .slice lo2 ln2 lc2, .int .i64 F4, v]) ∧ Hid (OwnG 44 2 PaR S4 wr v (F5.take j)) ∧ Hid (Bx (fun b => m ≤ b ∧ b < S4 ∧ b ≠ g) wr (fun w => RdG 2 PaR w lo2 ln2 lc2 (F3.take 34) ∧ Cel w m [.int .i64 F1, .int .i64 F2, .slice lo ln lc, .int .i64 F4, .slice bo bn bc])) ∧ Hid (S4 ≤ wr.heap.size)) (fun i _ => 42 - (intOf i).toNat)
            case atStart => exact ⟨0, _, Nat.zero_le _, Nat.zero_le _, rfl, HB4, HG, hid (by simpa using OwnG.nil _ _ _ _ _), HPL, HSS4⟩
            case round =>
              clear HB4 HG HPL HSS4
              obtain ⟨j, v, hjn, hj42, rfl, HB4, HG, HOL, HPL, HSS4⟩ := hrel
              have hs4 := HSS4.out
              obtain ⟨so, sc, rfl, hsh3, hsh4, _⟩ := HOL.out.shape
              have hll : (F5.take j).length = j := by simp [HBL.out]; omega
              rw [hll] at HOL HG hsh3
              have HJL := hid hll; clear hll
              have e4 := HG.out.cell 4 _ rfl
              have f4 := HPL.out.now.2.cell 4 _ rfl
              have hgr : g < wr.heap.size := by omega
              have hmr : m < wr.heap.size := by omega
              by_cases hj : j < bn ∧ j < 42
              ·
                obtain ⟨hj, hj3⟩ := hj
                obtain ⟨bb, boff, x, y, rfl, hxy, h5, h6, hwx, hwy⟩ := (HBl.out.below2 (by rw [HM.out]; exact HB4.out)).at2 hj
                have htj : F5.take (j + 1) = F5.take j ++ [(x, y)] := by rw [List.take_add_one, hxy]; rfl
                have HTJ := hid htj
                have HXW := hid (And.intro hwx hwy)
                have hbb : bb < wr.heap.size := World.block_lt_of_cell? wr _ h5
                have HE0 := hid h5; have HE1 := hid h6
                clear htj hxy hwx hwy h5 h6
                go_wp2_with fail
                clear e4 f4
                refine wp_region_below_tail 8 (by kernel_rfl) [Is ?vC0, Is (.slice so j sc), Is ?vC2, Is (.slice (some ⟨bb, boff, none⟩) bn bc), Is (.int .i64 j), Is ?vC5, Is (.agg #[.int .i64 x, .int .i64 y]), IsNw wr.heap.size 2 PaR (x, y)] _ rfl (by kernel_rfl) rfl (by kernel_rfl) ?hopC ?hstC ?hendC
                case hopC =>
                  refine ⟨rq _ _ _ [(6, .pointer (some ⟨g, 0, none⟩))] ⟨⟨by kernel_rfl, rfl⟩, trivial⟩ ?_, ?_⟩
                  · intro a w1 hC e6
                    refine Or.inl ⟨_, ?_, rfl⟩
                    go_simp
                    rfl
                  refine ⟨rq _ _ _ [] trivial ?_, ?_⟩
                  · intro a w1 hC  (h0 : a.tmps.getD 51 undef = _)
                    refine Or.inl ⟨.slice so j sc, ?_, rfl⟩
                    have f0 := (HG.out.below (Nat.succ_pos _) hC).cell 4 _ rfl
                    go_simp
                  refine ⟨rq _ _ _ [(5, .pointer (some ⟨m, 0, none⟩))] ⟨⟨by kernel_rfl, rfl⟩, trivial⟩ ?_, ?_⟩
                  · intro a w1 hC e5
                    refine Or.inl ⟨_, ?_, rfl⟩
                    go_simp
                    rfl
                  refine ⟨rq _ _ _ [] trivial ?_, ?_⟩
                  · intro a w1 hC  (h2 : a.tmps.getD 53 undef = _)
                    refine Or.inl ⟨.slice (some ⟨bb, boff, none⟩) bn bc, ?_, rfl⟩
                    have f0 := (HPL.out.now.2.below (Nat.succ_pos _) hC).cell 4 _ rfl
                    go_simp
                  refine ⟨rq _ _ _ [(7, .int .i64 j)] ⟨⟨by kernel_rfl, rfl⟩, trivial⟩ ?_, ?_⟩
                  · intro a w1 hC e7
                    refine Or.inl ⟨.int .i64 j, ?_, rfl⟩
                    go_simp
                  refine ⟨rq _ _ _ [] trivial ?_, ?_⟩
                  · intro a w1 hC  (h3 : a.tmps.getD 54 undef = _) (h4 : a.tmps.getD 55 undef = _)
                    refine Or.inl ⟨_, ?_, rfl⟩
                    go_simp
                    first | (go_bits; rfl) | rfl | (rw [if_pos (by omega)])
                  refine ⟨rq _ _ _ [] trivial ?_, ?_⟩
                  · intro a w1 hC  (h5 : a.tmps.getD 56 undef = _)
                    refine Or.inl ⟨.agg #[.int .i64 x, .int .i64 y], ?_, rfl⟩
                    have f0 := (hC.cell (p := ⟨bb, boff + j * 2, none⟩) hbb).trans HE0.out
                    have f1 := (hC.cell (p := ⟨bb, boff + j * 2 + 1, none⟩) hbb).trans HE1.out
                    go_simp
                  refine ⟨rq _ _ _ [] trivial ?_, ?_⟩
                  · intro a w1 hC  (h6 : a.tmps.getD 57 undef = _)
                    rw [Array.getD_eq_getD_getElem?] at h6
                    refine Or.inr (Or.inr ⟨.slice (some ⟨w1.heap.size, 0, none⟩) 1 1, w1.alloc (.cells #[.int .i64 x, .int .i64 y] 44), ?_, IsNw.mk (cs := [.int .i64 x, .int .i64 y]) rfl (by simp [Value.oneCell']) (fun _ _ => ⟨rfl, HXW.out.1, HXW.out.2⟩), Bl.alloc (Bl.refl _) _⟩)
                    go_simp
                  exact trivial
                case hstC => repeat (first | exact trivial | refine ⟨Stays.is _, ?_⟩ | refine ⟨Stays.nw, ?_⟩)
                case hendC =>
                  intro w1 hC
                  rintro _ rfl _ rfl _ rfl _ rfl _ rfl _ rfl _ rfl
                  intro x7 h7
                  obtain ⟨qn, csn, rfl, hnl, hno, hnc, hnx⟩ := h7
                  simp only [Ends, Act.put, List.setIfInBounds_toArray, List.set_cons_succ, List.set_cons_zero, List.drop_succ_cons, List.drop_zero]
                  have hs1 := hC.size
                  go_wp2_with (at_builtin; apply stopHere)
                  refine hid ?_
                  refine wpList_append_g rfl (.tmp 52) (.tmp 58) 40 rfl _ _ Try.underlying40 infoLab rfl (by decide) rfl (HOL.out.below hC (Nat.le_refl _)) (Nat.le_trans hs4 hs1) qn csn rfl hnl hnc hno (x, y) (hnx.more fun b hb => ⟨Nat.le_trans hs4 hb.1, hb.2, fun e => by have := (HOL.out.lt b e).2; omega⟩) (by rw [HJL.out]; omega) (by rw [HJL.out]; omega) ?_
                  intro v2 w2 o1 o2
                  obtain ⟨so2, sc2, hve2, _, _, _⟩ := o1.shape
                  rw [List.length_append, HJL.out] at hve2
                  obtain rfl : v2 = .slice so2 (j + 1) sc2 := hve2
                  obtain ⟨hb2, hc2, hp2, hs2⟩ := cut_mid HB4.out HG.out HOL.out HPL.out (by omega) hgS hs4 hC o2 (Nat.succ_pos _)
                  have hck2 := hc2.cell 4 _ rfl
                  have hfk2 := hc2.fro 4 _ rfl
                  have hq2 : g < w2.heap.size := by omega
                  have HE := hid (cut_end hb2 hc2 o1 hp2 (by omega) hgS hs2 (by rw [HM.out]; exact Nat.le_refl _) 4 (.slice so2 (j + 1) sc2) (by simp))
                  clear hb2 hc2 hp2 hs2 o1 o2 hnl hno hnc hnx hC hs1
                  go_wp2_with fail
                  clear hck2 hfk2
                  go_roundw
                  case rel =>
                    obtain ⟨e1, e2, e3, e4, e5⟩ := HE.out
                    exact ⟨j + 1, .slice so2 (j + 1) sc2, by omega, by omega, by go_num, hid e1, hid e2, hid (by rw [HTJ.out]; exact e3), hid e4, hid e5⟩
                  case measure => simp [intOf]; omega
              ·
                have htk : F5.take 42 = F5.take j := by
                  rcases Nat.lt_or_ge j 42 with h3 | h3
                  · have h4 : ¬ j < bn := fun h => hj ⟨h, h3⟩
                    rw [List.take_of_length_le (by rw [HBL.out]; omega), List.take_of_length_le (by rw [HBL.out]; omega)]
                  · rw [show j = 42 by omega]
                obtain ⟨ao, cap, hsl, hrx⟩ := HOL.out.bx
                rw [HJL.out] at hsl hrx
                obtain ⟨rfl, rfl⟩ : so = ao ∧ sc = cap := by simpa using hsl
                rw [← htk] at hrx
                have HPN : Hid (Bx (fun b => m ≤ b ∧ b < wr.heap.size ∧ b ≠ g) wr (fun w => RdG 2 PaR w lo2 ln2 lc2 (F3.take 34) ∧ RdG 2 PaR w so j sc (F5.take 42))) := hid ((HPL.out.more fun b hb => ⟨hb.1, Nat.lt_of_lt_of_le hb.2.1 hs4, hb.2.2⟩).imp2 (hrx.more fun b hb => ⟨by omega, hb.2, by omega⟩) fun w a b => ⟨a.1, b⟩)
                clear htk hrx hsl
                rcases Nat.lt_or_ge j bn with h3 | h3
                · have h4 : ¬ j < 42 := fun h => hj ⟨h3, h⟩
                  clear hj
                  go_wp2_with fail
                  go_meet
                  case rel => exact ⟨j, so, j, sc, rfl, HB4, HG, HPN, hid hgr⟩
                · clear hj
                  go_wp2_with fail
                  go_meet
                  case rel => exact ⟨j, so, j, sc, rfl, HB4, HG, HPN, hid hgr⟩
          case rest =>
            clear HB4 HG HPL HSS4
            obtain ⟨jj, bo2, bn2, bc2, rfl, HB4, HG, HPL, HGL⟩ := hcut
            obtain ⟨w5, rfl⟩ : ∃ wo : World, wo = wc := ⟨_, rfl⟩
            have hqr : q < wr.heap.size := by omega
            have HC5 := hid (HC.out.keep (show q < m by have := HM.out; omega) HB4.out)
            have HO5 := hid (HO.out.below HB4.out (by rw [HM.out]; exact Nat.le_refl _))
            have hs5 := HB4.out.size
            have q0 := HC5.out.cell 1 _ rfl
            have e0 := HG.out.cell 0 _ rfl
            have e1 := HG.out.cell 1 _ rfl
            have e2 := HG.out.cell 2 _ rfl
            have e3 := HG.out.cell 3 _ rfl
            have e4 := HG.out.cell 4 _ rfl
            have hg5 := HGL.out
            have hq5 : q < w5.heap.size := by omega
            go_wp2_with (at_builtin; apply stopHere)
            refine hid ?_
            clear q0 e0 e1 e2 e3 e4
            have hC : Below wr.heap.size wr (w5.alloc (.cells #[.int .i64 F1, .int .i64 F2, .slice lo2 ln2 lc2, .int .i64 F4, .slice bo2 bn2 bc2] 42)) := by
              rw [HM.out]; exact HB4.out.trans (((Bl.alloc (Bl.refl w5) _)).mono (by have := HM.out; omega))
            have hfr : Bx (fun b => S ≤ b ∧ b < (w5.alloc (.cells #[.int .i64 F1, .int .i64 F2, .slice lo2 ln2 lc2, .int .i64 F4, .slice bo2 bn2 bc2] 42)).heap.size ∧ (Value.slice ro k rc).ownBlock ≠ some b) (w5.alloc (.cells #[.int .i64 F1, .int .i64 F2, .slice lo2 ln2 lc2, .int .i64 F4, .slice bo2 bn2 bc2] 42)) (fun w => FrR w [.int .i64 F1, .int .i64 F2, .slice lo2 ln2 lc2, .int .i64 F4, .slice bo2 bn2 bc2] ⟨F1, F2, F3.take 34, F4, F5.take 42⟩) :=
              (HPL.out.imp fun w h => ⟨_, _, _, _, _, _, rfl, h.1, h.2, HWF.out.1, HWF.out.2.1, HWF.out.2.2⟩).to (fun b hb => (Bl.alloc (Bl.refl w5) _).block b hb.2.1) fun b hb => ⟨by have := HM.out; omega, by have := hb.2.1; simp; omega, fun e => by have h1 := (HO.out.lt b e).2; have := HM.out; omega⟩
            refine wpList_append_g rfl (.tmp 62) (.tmp 64) 23 rfl _ _ Try.underlying23 infoFr rfl (by decide) rfl (HO5.out.alloc _) (by simp; omega) w5.heap.size [.int .i64 F1, .int .i64 F2, .slice lo2 ln2 lc2, .int .i64 F4, .slice bo2 bn2 bc2] rfl rfl (Cel.new w5 [.int .i64 F1, .int .i64 F2, .slice lo2 ln2 lc2, .int .i64 F4, .slice bo2 bn2 bc2] 42).cell (by simp [Value.oneCell']) ⟨F1, F2, F3.take 34, F4, F5.take 42⟩ hfr (by rw [HLL.out]; omega) (by rw [HLL.out]; omega) ?_
            intro v2 w2 o1 o2
            obtain ⟨ro2, rc2, hve2, _, _, _⟩ := o1.shape
            rw [List.length_append, HLL.out] at hve2
            obtain rfl : v2 = .slice ro2 (k + 1) rc2 := hve2
            obtain ⟨hb2, hc2, hp2, hs2⟩ := cut_mid HB.out HC.out HO.out HPR.out hpq hqS hsr hC o2 (Nat.succ_pos _)
            have hck2 := hc2.cell 1 _ rfl
            have hfk2 := hc2.fro 1 _ rfl
            have hq2 : q < w2.heap.size := by omega
            have HE := hid (cut_end hb2 hc2 o1 hp2 hpq hqS hs2 (by rw [HZ0.out]; exact Nat.le_refl _) 1 (.slice ro2 (k + 1) rc2) (by simp))
            clear hb2 hc2 hp2 hs2 o1 o2 hC hfr
            go_wp2_with fail
            clear hck2 hfk2
            go_roundw
            case rel =>
              obtain ⟨e1, e2, e3, e4, e5⟩ := HE.out
              exact ⟨k + 1, .slice ro2 (k + 1) rc2, by omega, by omega, by go_num, hid e1, hid e2, hid (by rw [HTF.out]; exact e3), hid e4, hid e5⟩
            case measure => simp [intOf]; omega
      ·
        have htk : (fs.take 34).map cutF = (fs.take k).map cutF := by
          rcases Nat.lt_or_ge k 34 with h3 | h3
          · have h4 : ¬ k < fn := fun h => hk ⟨h, h3⟩
            rw [List.take_of_length_le (by rw [HLF.out]; omega), List.take_of_length_le (by rw [HLF.out]; omega)]
          · rw [show k = 34 by omega]
        obtain ⟨ao, cap, hsl, hrx⟩ := HO.out.bx
        rw [HLL.out] at hsl hrx
        obtain ⟨rfl, rfl⟩ : ro = ao ∧ rc = cap := by simpa using hsl
        rw [← htk] at hrx
        have hqr : q < wr.heap.size := by omega
        have HR := hid (HR0.out.keep (show p + 1 < p + 2 by omega) HB.out)
        obtain ⟨wf, hwf⟩ : ∃ wf, (((wr.setCell ⟨p + 1, 0, none⟩ (.slice po pn pc)).setCell ⟨p + 1, 1, none⟩ (.slice ro k rc)).setCell ⟨p + 1, 2, none⟩ (.int .i64 asks)) = wf := ⟨_, rfl⟩
        have hgA : wr.grownBy wf (some (p + 1)) := by rw [← hwf]; exact (gr_set (gr_set (gr_set (gr_refl _ _) 0 _) 1 _) 2 _)
        have HFC : Hid (Cel wf (p + 1) [.slice po pn pc, .slice ro k rc, .int .i64 asks]) := hid (hwf ▸ (((HR.out.set 0 (.slice po pn pc) (by simp)).set 1 (.slice ro k rc) (by simp)).set 2 (.int .i64 asks) (by simp)))
        have hsz : wf.heap.size = wr.heap.size := by rw [← hwf]; simp
        have HPF : Hid (Bx (fun b => w.heap.size ≤ b ∧ b < wf.heap.size) wf (StR ⟨po, pn, pc, ro, k, rc⟩ (cutS ⟨vs, fs, asks⟩))) := hid (((HPR.out.more (C' := fun b => p + 2 ≤ b ∧ b < wr.heap.size) fun b hb => ⟨hb.1, by omega⟩).imp2 (hrx.more fun b hb => ⟨by omega, hb.2⟩) fun w a b => (⟨a, b, HAW.out⟩ : StR ⟨po, pn, pc, ro, k, rc⟩ (cutS ⟨vs, fs, asks⟩) w)).to (fun b hb => hgA.block b hb.2 (fun e => (by have e2 : b = p + 1 := (by simpa using e); omega))) (fun b hb => ⟨by rw [HP.out]; omega, by rw [hsz]; exact hb.2⟩))
        have HBF : Hid (Below w.heap.size w wf) := hid (gr_blK (by rw [HP.out]; exact HBW.out) hgA (by rw [HP.out]; omega) (by rw [HP.out]; omega))
        have hpl : p + 1 < wr.heap.size := by omega
        have HWF := hid hwf
        clear hwf hgA hsz htk hsl hrx
        have a0 := HC.out.cell 0 _ rfl
        have a1 := HC.out.cell 1 _ rfl
        have a2 := HC.out.cell 2 _ rfl
        have d0 := HR.out.cell 0 _ rfl
        have fd0 := HR.out.fro 0 _ rfl
        have d1 := HR.out.cell 1 _ rfl
        have fd1 := HR.out.fro 1 _ rfl
        have d2 := HR.out.cell 2 _ rfl
        have fd2 := HR.out.fro 2 _ rfl
        rcases Nat.lt_or_ge k fn with h3 | h3
        · have h4 : ¬ k < 34 := fun h => hk ⟨h3, h⟩
          clear hk
          go_wp2_with fail
          rw [HWF.out]
          refine bodyPost_ret (v := .agg #[.slice po pn pc, .slice ro k rc, .int .i64 asks]) ?_ rfl ⟨⟨po, pn, pc, ro, k, rc⟩, rfl, by first | exact HPF.out | (rw [HP.out] at HPF; exact HPF.out), by first | exact HBF.out | (rw [HP.out] at HBF; exact HBF.out)⟩
          clear a0 a1 a2 d0 d1 d2
          have a0 := HFC.out.cell 0 _ rfl
          have a1 := HFC.out.cell 1 _ rfl
          have a2 := HFC.out.cell 2 _ rfl
          simp [results, Try.results9, go_sem, a0, a1, a2]
        · clear hk
          go_wp2_with fail
          rw [HWF.out]
          refine bodyPost_ret (v := .agg #[.slice po pn pc, .slice ro k rc, .int .i64 asks]) ?_ rfl ⟨⟨po, pn, pc, ro, k, rc⟩, rfl, by first | exact HPF.out | (rw [HP.out] at HPF; exact HPF.out), by first | exact HBF.out | (rw [HP.out] at HBF; exact HBF.out)⟩
          clear a0 a1 a2 d0 d1 d2
          have a0 := HFC.out.cell 0 _ rfl
          have a1 := HFC.out.cell 1 _ rfl
          have a2 := HFC.out.cell 2 _ rfl
          simp [results, Try.results9, go_sem, a0, a1, a2]
end Go.Proofs.Ytnbegmlbkjjggaa
