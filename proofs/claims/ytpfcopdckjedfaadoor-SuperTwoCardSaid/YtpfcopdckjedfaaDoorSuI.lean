/- super: Save. Written by gensui.py. -/
import Derived.Test.YtpfcopdckjedfaaDoorSuH
import Derived.Test.YtpfcopdckjedfaaDoorKDA
import Derived.BigRegion
namespace Go.Proofs.YtpfcopdckjedfaaDoor
open Go.RowKit
set_option linter.unusedVariables false
set_option maxRecDepth 100000

theorem save_math {s : Sp} {b : List Int} {M : Dv} (hM : M.ok) (hst : M.still) (hh : SHas M.now s.lo s.text s.turn) (ht : s.turn < 9223372036854775806) (hn : s.lo + 2 ≤ M.now.length) (hb : b.length ≤ 40) :
    ((stoM (recE (s.turn + 1) b) [s.lo + (1 - pr s.turn)] M).2 = 10 ∧ Saved SHas s b M (stoM (recE (s.turn + 1) b) [s.lo + (1 - pr s.turn)] M).1 10 s ∨ (stoM (recE (s.turn + 1) b) [s.lo + (1 - pr s.turn)] M).2 = 0 ∧ Saved SHas s b M (stoM (recE (s.turn + 1) b) [s.lo + (1 - pr s.turn)] M).1 0 { s with text := b, turn := s.turn + 1 }) ∧
      (M.fuse = -1 → (stoM (recE (s.turn + 1) b) [s.lo + (1 - pr s.turn)] M).1.fuse = -1) ∧ (stoM (recE (s.turn + 1) b) [s.lo + (1 - pr s.turn)] M).1.calls ≤ M.calls + 10 ∧ (stoM (recE (s.turn + 1) b) [s.lo + (1 - pr s.turn)] M).1.now.length = M.now.length := by
  have hl := recE_len (s.turn + 1) hb
  have hp := pr_01 s.turn
  have hi : s.lo + (1 - pr s.turn) < M.now.length := by omega
  by_cases hf : M.fuse = 0
  · have e : stoM (recE (s.turn + 1) b) [s.lo + (1 - pr s.turn)] M = (M, 10) := by
      have hw : M.writeE ((s.lo + (1 - pr s.turn) : Nat) : Int) 64 = 10 := by unfold Dv.writeE; rw [if_pos hf]
      show (if M.writeE ((s.lo + (1 - pr s.turn) : Nat) : Int) 64 = 0 then _ else (M, M.writeE ((s.lo + (1 - pr s.turn) : Nat) : Int) 64)) = _
      rw [hw, if_neg (by decide)]
    rw [e]
    exact ⟨.inl ⟨rfl, save_dead hst hh hf⟩, fun h => h, by simp only; omega, rfl⟩
  · obtain ⟨a1, a2⟩ := Dv.write_all (Dv.ok64 hM hi) hi hl hf
    obtain ⟨M1, h1⟩ : ∃ M1, M.write ((s.lo + (1 - pr s.turn) : Nat) : Int) (recE (s.turn + 1) b) = M1 := ⟨_, rfl⟩
    have n1 : M1.now = M.now.set (s.lo + (1 - pr s.turn)) (recE (s.turn + 1) b) := by rw [← h1, a2]; rfl
    have s1 : M1.safe = M.safe := by rw [← h1, a2]; rfl
    have l1 : M1.loose = M.loose.set (s.lo + (1 - pr s.turn)) true := by rw [← h1, a2]; rfl
    have c1 : M1.calls = M.calls + 1 := by rw [← h1, a2]; rfl
    have f1 : M1.fuse = if 0 < M.fuse then M.fuse - 1 else M.fuse := by rw [← h1, a2]; rfl
    have e : stoM (recE (s.turn + 1) b) [s.lo + (1 - pr s.turn)] M = (M1.flush, M1.flushE) := by
      show (if M.writeE ((s.lo + (1 - pr s.turn) : Nat) : Int) 64 = 0 then (((M.write ((s.lo + (1 - pr s.turn) : Nat) : Int) (recE (s.turn + 1) b)).flush, (M.write ((s.lo + (1 - pr s.turn) : Nat) : Int) (recE (s.turn + 1) b)).flushE) : Dv × Int) else _) = _
      rw [if_pos a1, h1]
    rw [e]
    by_cases hf1 : M1.fuse = 0
    · have e2 : M1.flush = M1 := by unfold Dv.flush; rw [if_pos hf1]
      have e3 : M1.flushE = 10 := by unfold Dv.flushE; rw [if_pos hf1]
      rw [e2, e3]
      have hfm : M.fuse ≠ -1 := by intro h; rw [h] at f1; rw [if_neg (by decide)] at f1; omega
      exact ⟨.inl ⟨rfl, save_half hst hh hfm ht hn hb n1 s1 l1⟩, fun h => absurd h hfm, by simp only; omega, by simp only; rw [n1]; simp⟩
    · have e2 : M1.flush = Dv.next { M1 with safe := M1.now, loose := List.replicate M1.now.length false } := by unfold Dv.flush; rw [if_neg hf1]
      have e3 : M1.flushE = 0 := by unfold Dv.flushE; rw [if_neg hf1]
      rw [e2, e3]
      refine ⟨.inr ⟨rfl, save_done hh ht hn hb n1 rfl rfl⟩, fun h => ?_, ?_, ?_⟩
      · refine Dv.next_fuse ?_
        show M1.fuse = -1
        rw [f1, h]; decide
      · show M1.calls + 1 ≤ _; omega
      · show M1.now.length = _; rw [n1]; simp
/-- A row of the call's own. -/
def IsOw (E : TypeId) (B : Nat) (xs : List Int) : Value → World → Prop := fun v w => Own E .u8 B w v xs
theorem Stays.ow (E : TypeId) (B : Nat) (xs : List Int) : Stays (IsOw E B xs) := fun _ _ _ h hb => h.below hb (Nat.le_refl _)
/-- A record whose text is the call's own. -/
def IsPr (E : TypeId) (B : Nat) (t : Int) (xs : List Int) : Value → World → Prop := fun v w => ∃ vo n vc, v = .agg #[.int .i64 t, .slice vo n vc] ∧ Own E .u8 B w (.slice vo n vc) xs
theorem Stays.pr (E : TypeId) (B : Nat) (t : Int) (xs : List Int) : Stays (IsPr E B t xs) := fun _ _ _ ⟨vo, n, vc, e, h⟩ hb => ⟨vo, n, vc, e, h.below hb (Nat.le_refl _)⟩
/-- A new block. -/
def IsBk (T : TypeId) (B : Nat) (cs : List Value) : Value → World → Prop := fun v w => ∃ q, v = .pointer (some ⟨q, 0, none⟩) ∧ B ≤ q ∧ Blk w q T cs
theorem Stays.bk (T : TypeId) (B : Nat) (cs : List Value) : Stays (IsBk T B cs) := fun _ _ _ ⟨q, e, hB, h⟩ hb => ⟨q, e, hB, h.bl hb⟩
/-- One sector as an argument. -/
theorem rd_one (w : World) (a : Nat) (ha : a ≤ 4096) : Rd .i64 (w.alloc (.cells #[.int .i64 (a : Int)] 3)) (some ⟨w.heap.size, 0, none⟩) 1 1 ([a].map Int.ofNat) :=
  Rd.built w .i64 3 (a : Int) (WalkArith.wf_i64 (by omega))
/-- .. in a block of its own. -/
def IsOne (B a : Nat) : Value → World → Prop := fun v w => ∃ g, v = .slice (some ⟨g, 0, none⟩) 1 1 ∧ B ≤ g ∧ Rd .i64 w (some ⟨g, 0, none⟩) 1 1 ([a].map Int.ofNat)
theorem Stays.one (B a : Nat) : Stays (IsOne B a) := fun _ _ _ ⟨g, e, h, hr⟩ hb => ⟨g, e, h, hr.below hb⟩
/-- What Save leaves in memory, and on the device. -/
def SaveO (X : DevSpec) (A B : Nat → Prop) (s : Sp) (b : List Int) (M : Dv) (q : Addr) (w : World) (e : Ending) (w' : World) : Prop :=
  ∃ A' B' M' E s', e = .returned (.int .i64 E) ∧ (∀ b, A' b → A b ∨ w.heap.size ≤ b) ∧ (∀ b, B' b → B b ∨ w.heap.size ≤ b) ∧ (∀ b, A' b → ¬ B' b) ∧
      X.At A' M' s.p w' ∧ SuAt B' s' q w' ∧ Wrs (fun b => A b ∨ B b) w w' ∧ Saved SHas s b M M' E s' ∧ (M.fuse = -1 → M'.fuse = -1) ∧ M'.calls ≤ M.calls + 10 ∧ M'.now.length = M.now.length
set_option maxHeartbeats 4000000 in
theorem suSave_to (X : DevSpec) (A B : Nat → Prop) (M : Dv) (s : Sp) (q : Addr) (w : World) (ao : Option Addr) (n cap : Nat) (b : List Int) (hat : X.At A M s.p w) (hsu : SuAt B s q w) (hAB : ∀ b, A b → ¬ B b) (hr : Rd .u8 w ao n cap b) (hst : M.still) (hh : SHas M.now s.lo s.text s.turn) (ht0 : 0 < s.turn) (ht : s.turn < 1000000000) (hc : M.calls < 100000000) (hn : n ≤ 40) (hlo : s.lo + 2 ≤ M.now.length) (hL : Laid w) :
    Calls Tryd.prog 11 #[.pointer (some q), .slice ao n cap] w (SaveO X A B s b M q w) := by
  have HSU := hid hsu
  obtain ⟨p, to, tn, tc, rfl, hbk, htr, hBp, htb, hBl⟩ := hsu
  have hok := X.ok hat
  have hbl := hr.len
  have HM := hid (save_math (b := b) hok hst hh (by omega) hlo (by omega))
  have hlo2 : s.lo ≤ 2046 := by have := hok.n2; omega
  have hpr := pr_01 s.turn
  obtain ⟨sp, hsp⟩ : ∃ x, s.lo + (1 - pr s.turn) = x := ⟨_, rfl⟩
  obtain ⟨he, hhe⟩ : ∃ x, s.lo + pr s.turn = x := ⟨_, rfl⟩
  have HSP := hid hsp
  have HHE := hid hhe
  have hspb : sp ≤ 2047 := by omega
  rw [hsp] at hbk HM
  rw [hhe] at hbk
  have htw : IntKind.i64.wrap (s.turn + 1) = s.turn + 1 := IntWalk.i64_in _ (by omega)
  have h1 : ¬ (40 : Int) < (n : Int) := by omega
  have HAT := hid hat; have HR := hid hr; have HL := hid hL; have HBK := hid hbk; have HTR := hid htr
  have HA := hid hAB; have HBP := hid hBp; have HTB := hid htb; have HBL := hid hBl
  have HAL : Hid (∀ x, A x → x < w.heap.size) := hid (X.lt hat)
  have hpw : p < w.heap.size := hbk.lt
  have HN := hid hbl
  clear hat hAB hr hst hh hlo hL hbk htr hBp htb hBl hok hbl hsp hhe hpr
  go_enter Tryd.func11, Tryd.ntmps11
  go_wp2_with fail
  refine wp_region_below_tail 10 (by kernel_rfl) [Is (.pointer (some ⟨p, 0, none⟩)), Is (.pointer (some ⟨p, 0, none⟩)), Is ?vx2, Is ?vx3, Is (.int .i64 s.turn), Is (.int .i64 (s.turn + 1)), Is (.slice ao n cap), IsOw 5 w.heap.size b, IsPr 5 w.heap.size (s.turn + 1) b, IsBk 52 w.heap.size [.int .i64 0, .slice none 0 0]] _ rfl (by kernel_rfl) rfl (by kernel_rfl) ?hopx ?hstx ?hendx
  case hopx =>
    refine ⟨rq _ _ _ [(0, .pointer (some ⟨p, 0, none⟩))] ⟨⟨by kernel_rfl, rfl⟩, trivial⟩ ?_, ?_⟩
    · intro a w1 hC e0
      refine Or.inl ⟨.pointer (some ⟨p, 0, none⟩), ?_, rfl⟩
      go_simp
    refine ⟨rq _ _ _ [] trivial ?_, ?_⟩
    · intro a w1 hC  (h0 : a.tmps.getD 12 undef = _)
      refine Or.inl ⟨.pointer (some ⟨p, 0, none⟩), ?_, rfl⟩
      go_simp
    refine ⟨rq _ _ _ [] trivial ?_, ?_⟩
    · intro a w1 hC  (h1 : a.tmps.getD 13 undef = _)
      refine Or.inl ⟨_, ?_, rfl⟩
      go_simp
      rfl
    refine ⟨rq _ _ _ [] trivial ?_, ?_⟩
    · intro a w1 hC  (h2 : a.tmps.getD 14 undef = _)
      refine Or.inl ⟨_, ?_, rfl⟩
      go_simp
      rfl
    refine ⟨rq _ _ _ [] trivial ?_, ?_⟩
    · intro a w1 hC  (h3 : a.tmps.getD 15 undef = _)
      refine Or.inl ⟨.int .i64 s.turn, ?_, rfl⟩
      have hcc := (HBK.out.bl hC).cell 1
      go_simp
    refine ⟨rq _ _ _ [] trivial ?_, ?_⟩
    · intro a w1 hC  (h4 : a.tmps.getD 16 undef = _)
      refine Or.inl ⟨.int .i64 (s.turn + 1), ?_, rfl⟩
      go_simp
    refine ⟨rq _ _ _ [(1, .slice ao n cap)] ⟨⟨by kernel_rfl, rfl⟩, trivial⟩ ?_, ?_⟩
    · intro a w1 hC e1
      refine Or.inl ⟨.slice ao n cap, ?_, rfl⟩
      go_simp
    refine ⟨rq _ _ _ [] trivial ?_, ?_⟩
    · intro a w1 hC  (h6 : a.tmps.getD 18 undef = _)
      refine Or.inr (Or.inl ⟨22, #[.slice ao n cap], ?_, ?_⟩)
      · go_simp
      · refine (bclone_to ao n cap b w1 (HR.out.below hC) (by omega)).mono ?_
        rintro e w2 ⟨vv, rfl, hown, hbel⟩
        exact ⟨_, rfl, hown.lift hC.size, hbel⟩
    refine ⟨rq _ _ _ [] trivial ?_, ?_⟩
    · intro a w1 hC  (h5 : a.tmps.getD 17 undef = _) h7
      have h7 : Own _ _ _ w1 (a.tmps.getD 19 undef) b := h7
      obtain ⟨vo, vc, e7, _⟩ := h7.rd
      rw [e7] at h7
      rw [Array.getD_eq_getD_getElem?] at h5 e7
      refine Or.inl ⟨.agg #[.int .i64 (s.turn + 1), .slice vo b.length vc], ?_, ⟨vo, b.length, vc, rfl, h7⟩⟩
      go_simp
    refine ⟨rq _ _ _ [] trivial ?_, ?_⟩
    · intro a w1 hC
      refine Or.inr (Or.inr ⟨.pointer (some ⟨w1.heap.size, 0, none⟩), w1.alloc (.cells #[.int .i64 0, .slice none 0 0] 52), ?_, ⟨w1.heap.size, rfl, hC.size, Blk.new w1 _ _⟩, Bl.alloc (Bl.refl _) _⟩)
      go_simp
    exact trivial
  case hstx => repeat (first | exact trivial | refine ⟨Stays.is _, ?_⟩ | refine ⟨Stays.ow _ _ _, ?_⟩ | refine ⟨Stays.pr _ _ _ _, ?_⟩ | refine ⟨Stays.bk _ _ _, ?_⟩)
  case hendx =>
    intro w1 hC
    rintro _ rfl _ rfl _ rfl _ rfl _ rfl _ rfl _ rfl
    intro x7 h7
    intro x8 h8
    intro x9 h9
    simp only [Ends, Act.put, List.setIfInBounds_toArray, List.set_cons_succ, List.set_cons_zero, List.drop_succ_cons, List.drop_zero]
    obtain ⟨vo, vn, vc, rfl, hv⟩ := h8
    obtain ⟨rb, rfl, hrb, hbk⟩ := h9
    have hvn : vn = b.length := by obtain ⟨_, _, e, _⟩ := hv.rd; cases e; rfl
    subst hvn
    have hne := hv.ne_blk hbk (by decide)
    have d0 := hbk.cell 0
    have d1 := hbk.cell 1
    have z0 := hbk.frozen 0
    have z1 := hbk.frozen 1
    have hrl := hbk.lt
    simp only [List.getElem?_cons_succ, List.getElem?_cons_zero] at d0 d1
    go_wp2_with fail
    obtain ⟨w2, hw2⟩ : ∃ w2, (w1.setCell ⟨rb, 0, none⟩ (.int .i64 (s.turn + 1))).setCell ⟨rb, 1, none⟩ (.slice vo b.length vc) = w2 := ⟨_, rfl⟩
    have hW12 : Wr rb w1 w2 := by rw [← hw2]; exact ((Wr.refl rb w1).set 0 _).set 1 _
    have hbk2 : Blk w2 rb 52 [.int .i64 (s.turn + 1), .slice vo b.length vc] := by rw [← hw2]; exact (hbk.set 0 _).set 1 _
    have HB2 := hid (hC.grown hW12 hC.size fun k hk => by cases hk; exact hrb)
    have HV2 := hid (hv.wr hW12 hne)
    have HBK2 := hid ((HBK.out.bl hC).grown hW12 (by intro e; cases e; omega))
    have HRB := hid hrb
    rw [hw2]
    have hN := HN.out
    rw [hN] at hbk2 HV2 ⊢
    have HK2 : Hid (Cel w2 rb [.int .i64 (s.turn + 1), .slice vo n vc]) := hid ⟨fun i v h => (hbk2.cell i).trans h, fun i v h => hbk2.frozen i⟩
    have HT2 := hid (X.bel HAT.out HB2.out)
    clear hw2 hW12 hbk2 hN hv hne hbk d0 d1 z0 z1 hrl hC hrb
    refine wp_region_below_tail 10 (by kernel_rfl) [Is (.agg #[.int .i64 (s.turn + 1), .slice vo n vc]), Is (.pointer (some ⟨p, 0, none⟩)), Is (.pointer (some ⟨p, 0, none⟩)), Is ?vy3, Is (.pointer (some s.p)), Is (.pointer (some ⟨p, 0, none⟩)), Is (.pointer (some ⟨p, 0, none⟩)), Is ?vy7, Is (.int .i64 (sp : Int)), IsOne w.heap.size sp] _ rfl (by kernel_rfl) rfl (by kernel_rfl) ?hopy ?hsty ?hendy
    case hopy =>
      refine ⟨rq _ _ _ [(5, .pointer (some ⟨rb, 0, none⟩))] ⟨⟨by kernel_rfl, rfl⟩, trivial⟩ ?_, ?_⟩
      · intro a w1 hC e5
        refine Or.inl ⟨.agg #[.int .i64 (s.turn + 1), .slice vo n vc], ?_, rfl⟩
        have k2 := HK2.out.below (Nat.succ_pos _) hC
        have c0 := k2.cell 0 _ rfl
        have c1 := k2.cell 1 _ rfl
        go_simp
      refine ⟨rq _ _ _ [(0, .pointer (some ⟨p, 0, none⟩))] ⟨⟨by kernel_rfl, rfl⟩, trivial⟩ ?_, ?_⟩
      · intro a w1 hC e0
        refine Or.inl ⟨.pointer (some ⟨p, 0, none⟩), ?_, rfl⟩
        go_simp
      refine ⟨rq _ _ _ [] trivial ?_, ?_⟩
      · intro a w1 hC  (h1 : a.tmps.getD 22 undef = _)
        refine Or.inl ⟨.pointer (some ⟨p, 0, none⟩), ?_, rfl⟩
        go_simp
      refine ⟨rq _ _ _ [] trivial ?_, ?_⟩
      · intro a w1 hC  (h2 : a.tmps.getD 23 undef = _)
        refine Or.inl ⟨_, ?_, rfl⟩
        go_simp
        rfl
      refine ⟨rq _ _ _ [] trivial ?_, ?_⟩
      · intro a w1 hC  (h3 : a.tmps.getD 24 undef = _)
        refine Or.inl ⟨.pointer (some s.p), ?_, rfl⟩
        have hcc := (HBK2.out.bl hC).cell 0
        go_simp
      refine ⟨rq _ _ _ [(0, .pointer (some ⟨p, 0, none⟩))] ⟨⟨by kernel_rfl, rfl⟩, trivial⟩ ?_, ?_⟩
      · intro a w1 hC e0
        refine Or.inl ⟨.pointer (some ⟨p, 0, none⟩), ?_, rfl⟩
        go_simp
      refine ⟨rq _ _ _ [] trivial ?_, ?_⟩
      · intro a w1 hC  (h5 : a.tmps.getD 26 undef = _)
        refine Or.inl ⟨.pointer (some ⟨p, 0, none⟩), ?_, rfl⟩
        go_simp
      refine ⟨rq _ _ _ [] trivial ?_, ?_⟩
      · intro a w1 hC  (h6 : a.tmps.getD 27 undef = _)
        refine Or.inl ⟨_, ?_, rfl⟩
        go_simp
        rfl
      refine ⟨rq _ _ _ [] trivial ?_, ?_⟩
      · intro a w1 hC  (h7 : a.tmps.getD 28 undef = _)
        refine Or.inl ⟨.int .i64 (sp : Int), ?_, rfl⟩
        have hcc := (HBK2.out.bl hC).cell 4
        go_simp
      refine ⟨rq _ _ _ [] trivial ?_, ?_⟩
      · intro a w1 hC  (h8 : a.tmps.getD 29 undef = _)
        refine Or.inr (Or.inr ⟨.slice (some ⟨w1.heap.size, 0, none⟩) 1 1, w1.alloc (.cells #[.int .i64 (sp : Int)] 3), ?_, ⟨w1.heap.size, rfl, (Bl.step HB2.out hC).size, rd_one w1 sp (by omega)⟩, Bl.alloc (Bl.refl _) _⟩)
        rw [Array.getD_eq_getD_getElem?] at h8
        go_simp
      exact trivial
    case hsty => repeat (first | exact trivial | refine ⟨Stays.is _, ?_⟩ | refine ⟨Stays.one _ _, ?_⟩)
    case hendy =>
      intro w1 hC
      rintro _ rfl _ rfl _ rfl _ rfl _ rfl _ rfl _ rfl _ rfl _ rfl
      intro x9 h9
      simp only [Ends, Act.put, List.setIfInBounds_toArray, List.set_cons_succ, List.set_cons_zero, List.drop_succ_cons, List.drop_zero]
      have HB3 := hid (Bl.step HB2.out hC)
      have hsz3 := HB3.out.size
      have HK3 := hid (HK2.out.below (Nat.succ_pos _) hC)
      have HBK3 := hid (HBK2.out.bl hC)
      have HV3 := hid (HV2.out.below hC (Nat.le_refl _))
      have HT3 := hid (X.bel HT2.out hC)
      obtain ⟨sb, rfl, hsb, hr4⟩ := h9
      obtain ⟨w4, hw4⟩ : ∃ w4, w1 = w4 := ⟨_, rfl⟩
      have hB4 : Below w1.heap.size w1 w4 := by rw [← hw4]; exact Below.refl _ _
      rw [hw4] at hr4
      have HB4 := hid (Bl.step HB3.out hB4)
      have HK4 := hid (HK3.out.below (Nat.succ_pos _) hB4)
      have HBK4 := hid (HBK3.out.bl hB4)
      obtain ⟨v0, vc0, ev, hrv⟩ := HV3.out.rd
      have HVL := hid (show ∀ ad, vo = some ad → w.heap.size ≤ ad.block ∧ ad.block < w1.heap.size from fun ad e => HV3.out.lt ad.block (by rw [e]; rfl))
      simp only [Value.slice.injEq] at ev
      obtain ⟨rfl, e2, rfl⟩ := ev
      rw [← e2] at hrv
      have HR4 := hid (hrv.below hB4)
      have hst := store_to X A M s.p (s.turn + 1) vo n vc b (some ⟨sb, 0, none⟩) 1 1 [sp] w4 (X.bel HT3.out hB4) HR4.out hn (by omega) (by omega) hr4 (fun ad e h => by cases e; have := HAL.out _ h; simp only at this; omega) hc (by omega) (HL.out.below HB4.out)
      have hrbl : rb < w4.heap.size := HK4.out.lt (Nat.succ_pos _)
      clear hB4 hr4 hrv e2 HT3 HT2 HK3 HK2 HBK3 HBK2 HV2 HV3 hC
      rw [hw4]
      go_wp2_with fail
      refine hst.mono ?_
      rintro e w5 ⟨A5, rfl, g1, g2, g3⟩
      have G := hid (And.intro g1 (And.intro g2 g3))
      have hrb := HRB.out
      have hK5 := HK4.out.same (g3.block rb hrbl (fun h => by have := HAL.out _ h; omega))
      have hbk5 := (g3.block p (by have := HB4.out.size; omega) (fun h => HA.out p h HBP.out)).trans HBK4.out
      have HR5 := hid (HR4.out.wrs g3 (fun ad e h => by have := (HVL.out ad e).1; have := HAL.out _ h; omega))
      have hs5 := g3.size
      have hs4 := HB4.out.size
      have hw5 : Wrs (fun b => A b ∨ B b) w w5 := (Wrs.of HB4.out).trans g3 (fun b h => .inl (.inl h))
      have HW5 := hid hw5
      have HX5 := hid (show ∀ x, A5 x → A x ∨ w4.heap.size ≤ x from g1)
      clear g1 g3 hst hw5
      rcases HM.out.1 with ⟨e2, sv⟩ | ⟨e2, sv⟩
      · rw [e2]
        have SV := hid sv
        clear e2 sv hK5 hbk5
        go_wp2_with fail
        go_ret
        refine ⟨A5, B, _, 10, s, rfl, fun x hx => ?_, fun x hx => .inl hx, fun x hx hb => ?_, G.out.2.1, HSU.out.keep fun x hx => ?_, HW5.out, SV.out, HM.out.2.1, HM.out.2.2.1, HM.out.2.2.2⟩
        · rcases HX5.out x hx with h | h
          · exact .inl h
          · exact .inr (by omega)
        · rcases HX5.out x hx with h | h
          · exact HA.out x h hb
          · have := HBL.out x hb; omega
        · have := HBL.out x hx
          exact (G.out.2.2.block x (by omega) (fun h => HA.out x h hx)).trans (HB4.out.block x this)
      · rw [e2]
        have SV := hid sv
        have HBKx := hid (show Blk w5 p 55 _ from hbk5)
        have c0 := hK5.cell 0 _ rfl
        have c1 := hK5.cell 1 _ rfl
        have d1 := HBKx.out.cell 1
        have d2 := HBKx.out.cell 2
        have z1 := HBKx.out.frozen 1
        have z2 := HBKx.out.frozen 2
        have hpl := HBKx.out.lt
        have hrl5 : rb < w5.heap.size := by omega
        simp only [List.getElem?_cons_succ, List.getElem?_cons_zero] at d1 d2
        obtain ⟨w6, hw6⟩ : ∃ w6, (w5.setCell ⟨p, 1, none⟩ (.int .i64 (s.turn + 1))).setCell ⟨p, 2, none⟩ (.slice vo n vc) = w6 := ⟨_, rfl⟩
        have hW56 : Wr p w5 w6 := by rw [← hw6]; exact ((Wr.refl p w5).set 1 _).set 2 _
        have HBK6 : Hid (Blk w6 p 55 [.pointer (some s.p), .int .i64 (s.turn + 1), .slice vo n vc, .int .i64 (he : Int), .int .i64 (sp : Int)]) := hid (by rw [← hw6]; exact (HBKx.out.set 1 _).set 2 _)
        have HW56 := hid hW56
        clear e2 sv hK5 hbk5 hW56
        go_wp2_with fail
        clear hw6 c0 c1 d1 d2 z1 z2
        have e3 := HBK6.out.cell 3
        have e4 := HBK6.out.cell 4
        have z3 := HBK6.out.frozen 3
        have z4 := HBK6.out.frozen 4
        have hpl6 := HBK6.out.lt
        simp only [List.getElem?_cons_succ, List.getElem?_cons_zero] at e3 e4
        go_region
        clear e3 e4 z3 z4
        go_wp2_with fail
        go_ret
        obtain ⟨wf, hwf⟩ : ∃ wf, ((w6.setCell ⟨p, 3, none⟩ (.int .i64 (sp : Int))).setCell ⟨p, 4, none⟩ (.int .i64 (he : Int))).drew = wf := ⟨_, rfl⟩
        have hbkf : Blk wf p 55 [.pointer (some s.p), .int .i64 (s.turn + 1), .slice vo n vc, .int .i64 (sp : Int), .int .i64 (he : Int)] := by rw [← hwf]; exact ((HBK6.out.set 3 _).set 4 _).drew
        have hWf : Wr p w5 wf := by rw [← hwf]; exact HW56.out.step (((Wr.refl p w6).set 3 _).set 4 _).drew
        rw [hwf]
        have hRf := HR5.out.wr hWf (fun ad e => by have := (HVL.out ad e).1; omega)
        have hWs : Wrs (fun b => b = p) w5 wf := ⟨hWf.os, hWf.tape, hWf.output, hWf.size, fun b hb hn => hWf.block b hb (fun e => hn (by cases e; rfl))⟩
        have hA5 := X.lt G.out.2.1
        have hnp : ∀ x, A5 x → x ≠ p := fun x hx e => by
          subst e
          rcases HX5.out _ hx with h | h
          · exact HA.out _ h HBP.out
          · omega
        have hlt5 : ∀ ad, vo = some ad → ad.block < w4.heap.size := fun ad e => by have := (HVL.out ad e).2; have := hw4; subst this; omega
        have hge : ∀ ad, vo = some ad → w.heap.size ≤ ad.block := fun ad e => (HVL.out ad e).1
        have hpn : pr (s.turn + 1) = 1 - pr s.turn := pr_next s.turn
        have hp1 := pr_01 s.turn
        have e1 : s.lo + pr (s.turn + 1) = sp := by rw [hpn]; exact HSP.out
        have e2 : s.lo + (1 - pr (s.turn + 1)) = he := by rw [hpn, show 1 - (1 - pr s.turn) = pr s.turn by omega]; exact HHE.out
        refine ⟨A5, fun x => x = p ∨ ∃ ad, vo = some ad ∧ x = ad.block, _, 0, { s with text := b, turn := s.turn + 1 }, rfl, fun x hx => ?_, fun x hx => ?_, fun x hx hb => ?_, X.keep G.out.2.1 fun x hx => ?_, ⟨p, vo, n, vc, rfl, ?_, hRf, .inl rfl, fun ad e h0 => ⟨.inr ⟨ad, e, rfl⟩, by have := hge ad e; omega⟩, fun x hx => ?_⟩, HW5.out.trans hWs fun x hx => ?_, SV.out, HM.out.2.1, HM.out.2.2.1, HM.out.2.2.2⟩
        · rcases HX5.out x hx with h | h
          · exact .inl h
          · exact .inr (by omega)
        · rcases hx with rfl | ⟨ad, e, rfl⟩
          · exact .inl HBP.out
          · exact .inr (hge ad e)
        · rcases hb with rfl | ⟨ad, e, rfl⟩
          · exact hnp _ hx rfl
          · rcases HX5.out _ hx with h | h
            · have := HAL.out _ h; have := hge ad e; omega
            · have := hlt5 ad e; omega
        · exact hWf.block x (hA5 x hx) (fun e => by cases e; exact hnp _ hx rfl)
        · simp only
          rw [e1, e2]
          exact hbkf
        · have hs := hWf.size
          rcases hx with rfl | ⟨ad, e, rfl⟩
          · omega
          · have := hlt5 ad e; omega
        · subst hx
          exact .inl (.inr HBP.out)
end Go.Proofs.YtpfcopdckjedfaaDoor
