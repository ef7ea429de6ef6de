/- The reference's GetInstr: an instruction with a list. -/
import Derived.Test.YtfambbpggodlkaaInsGetI
import Derived.Deep.AppendLies
import Derived.Deep.RegionLaw
namespace Go.Proofs.Ytfambbpggodlkaa
open Go.RowKit

theorem Quad.keep {w w' : World} {q B : Nat} {v0 v1 v2 v3 : Value} (h : Quad w q v0 v1 v2 v3) (hb : Below B w w') (hl : q < B) : Quad w' q v0 v1 v2 v3 :=
  ⟨(hb.cell (p := ⟨q, 0, none⟩) hl).trans h.c0, (hb.cell (p := ⟨q, 1, none⟩) hl).trans h.c1, (hb.cell (p := ⟨q, 2, none⟩) hl).trans h.c2, (hb.cell (p := ⟨q, 3, none⟩) hl).trans h.c3,
   (hb.frozen (p := ⟨q, 0, none⟩) hl).trans h.f0, (hb.frozen (p := ⟨q, 1, none⟩) hl).trans h.f1, (hb.frozen (p := ⟨q, 2, none⟩) hl).trans h.f2, (hb.frozen (p := ⟨q, 3, none⟩) hl).trans h.f3⟩
theorem Sg.keep {w wx wy : World} {p B : Nat} {ao : Option Addr} {n cap : Nat} {xs : List Int} {X : Nat} {s : RS} {op a b : Int} {lo : Option Addr} {ln lc : Nat} (h : Sg w wx p ao n cap xs X s op a b lo ln lc) (hb : Below B wx wy) (hX : X < B) (hp : p < B) : Sg w wy p ao n cap xs X s op a b lo ln lc :=
  ⟨h.r.keep hb hp, h.qa.keep hb (Nat.lt_trans h.hX hX), h.qx.keep hb hX, h.hp, h.hX, h.hpX⟩
/-- 'append(v, x)' within a region: v of the call's own, one element that stands in a block of its own. -/
theorem step_append_one {P : Program} {w : World} {ops : Array Oper} {o : Oper} {a : Act} {K : Act → World → Prop} {Q : Exit → Act → World → Prop} {E' : Prop} (hgd : o.guard = none) (s x : Operand) (t : TypeId)
    (ho : o.op = .call { callee := .builtin .append, args := #[s, x], argTypes := #[t, t] })
    (E : TypeId) (k : IntKind) (base : Nat) (bytes : Nat) (ht : P.underlying t = some (.slice E)) (hi : (P.info? E).map (fun i => (i.zero, i.size, i.bytes)) = some (some (.int k 0), 1, bytes))
    (v : Value) (xs : List Int) (hs : a.eval s = v) (hown : Own E k base w v xs)
    (ad : Addr) (n cap : Nat) (ys : List Int) (hx : a.eval x = .slice (some ad) n cap) (hr : Rd k w (some ad) n cap ys)
    (h63 : xs.length + n ≤ 4611686018427387904) (hbytes : (xs.length + n) * bytes ≤ 140737488355328) (hbase : base ≤ w.heap.size)
    (h : ∀ v' w', Own E k base w' v' (xs ++ ys) → Below base w w' → K (a.put o.dst v') w') : if Region.wanted o (yielded ops a.tmps) = true then Oper.wp P o a w K Q else E' := by
  obtain ⟨i, hi0, hz, hsz, hby⟩ := info_parts hi
  rw [if_pos (by simp [Region.wanted, hgd])]
  refine wp_append_own w s x t ho base E i (.int k 0) 1 bytes ht hi0 hz hsz hby rfl (by decide) v xs.length _ hs hown.row ad n cap (ys.map (Value.int k)) hx (by simp [hr.len]) (hr.news rfl) (ints_oneCell _ _) (by unfold maxLen; omega) hbytes hbase ?_
  intro v' w' h1 h2 _
  refine h v' w' ⟨?_, ?_⟩ ((Below.refl _ _).grown h2 hbase (fun b hb => (hown.lt b hb).1))
  · rw [List.map_append]
    simpa [hr.len] using h1
  · intro z hz'
    rcases List.mem_append.1 hz' with hz' | hz'
    · exact hown.wf z hz'
    · exact hr.wf z hz'

set_option maxHeartbeats 1000000 in
theorem getI_4 (ao : Option Addr) (n cap : Nat) (xs : List Int) (w : World) (hr : Rd .u8 w ao n cap xs) (op : Int) (i1 : Nat) (h1 : rOne xs ⟨0, 0⟩ = (op, ⟨i1, 0⟩)) (hs : sh op = 4) (v0 : Nat) (s1 s2 : RS) (h2 : rU xs ⟨i1, 0⟩ = ((v0 : Int), s1)) (h3 : need (decide ((v0 : Int) ≤ 50)) s1 = s2) (l : List Int) (s3 : RS) (h4 : rLs xs v0 s2 = (l, s3)) (a : Int) (s4 s5 : RS) (h5 : rU xs s3 = (a, s4)) (h6 : need (decide (a ≤ 1000)) s4 = s5) (I : Ins) (k : Nat) (er : Int) (hg : outI ⟨op, a, 0, l⟩ s5 = (I, k, er)) :
    Calls Try.prog 46 #[.slice ao n cap] w (RetG w I k er) := by
  obtain ⟨w0, hw0⟩ : ∃ w0, w0 = (w.alloc (.cells #[.int .i64 0, .int .i64 0, .int .i64 0, .slice none 0 0] 39)).alloc (.cells #[.slice ao n cap, .int .i64 0, .int .i64 0] 94) := ⟨_, rfl⟩
  have hop : 0 ≤ op ∧ op ≤ 255 := rOne_bd (fun x hx => bounds_u8 (hr.wf x hx)) h1
  have hR : Rdr w w0 (w.heap.size + 1) ao n cap xs ⟨0, 0⟩ := by
    rw [hw0]
    refine ⟨Bl.alloc (Bl.alloc (Bl.refl w) _) _, by omega, hr, ?_, ?_, ?_, ?_, ?_, Nat.zero_le _⟩ <;> go_simp
  have hQ : Quad w0 w.heap.size (.int .i64 0) (.int .i64 0) (.int .i64 0) (.slice none 0 0) := by
    rw [hw0]
    exact (Quad.new w _ _ _ _ _).below (Bl.alloc (Bl.refl _) _)
  have HR := hid hR
  have HQ := hid hQ
  have HW := hid hw0
  have H1 := hid h1
  have Hs := hid hs
  have HG := hid hg
  have hlt0 := hR.lt
  have H2 := hid h2
  have H3 := hid h3
  have H4 := hid h4
  have H5 := hid h5
  have H6 := hid h6
  have hv32 : v0 < 4294967296 := by have := rU_bd xs ⟨i1, 0⟩; rw [h2] at this; simp only at this; omega
  clear h2 h3 h4 h5 h6
  clear hR hQ hw0 h1 hg hr hs
  go_enter Try.func46, Try.ntmps46
  go_wp2_with fail
  rw [← HW.out]
  refine (octet_to w w0 (w.heap.size + 1) ao n cap xs ⟨0, 0⟩ HR.out op ⟨i1, 0⟩ H1.out).mono ?_
  rintro e w1 ⟨rfl, R1, M1⟩
  obtain ⟨p, hp⟩ : ∃ p, p = w.heap.size + 1 := ⟨_, rfl⟩
  rw [← hp] at R1 M1 ⊢
  have hsz1 : w.heap.size < w1.heap.size := by have := R1.lt; omega
  have hpl := R1.lt
  have HS0 : Hid (Sg w (w1.alloc (.cells #[.int .i64 op, .int .i64 0, .int .i64 0, .slice none 0 0] 39)) p ao n cap xs w1.heap.size ⟨i1, 0⟩ op 0 0 none 0 0) :=
    ⟨R1.below (Bl.alloc (Bl.refl _) _), (HQ.out.mv M1 (by omega)).below (Bl.alloc (Bl.refl _) _), Quad.new w1 _ _ _ _ _, by omega, hsz1, by omega⟩
  have d2 := R1.c2
  have e2 := R1.f2
  simp only at d2
  clear R1 M1 HR HQ HW hp H1
  go_wp2_with (go_at_call 28; refine (form_to _ _ Hs.out _).mono ?_; rintro e w' ⟨rfl, rfl⟩)
  obtain ⟨X, hX⟩ : ∃ X, X = w1.heap.size := ⟨_, rfl⟩
  obtain ⟨w2, hw2⟩ : ∃ w2, w2 = w1.alloc (.cells #[.int .i64 op, .int .i64 0, .int .i64 0, .slice none 0 0] 39) := ⟨_, rfl⟩
  rw [← hX, ← hw2] at HS0
  clear d2 e2
  rw [← hX, ← hw2]
  clear hX hw2
  obtain ⟨c0, c1, c2, c3, f0, f1, f2, f3⟩ := HS0.out.qx
  obtain ⟨a0, a1, a2, a3, g0, g1, g2, g3⟩ := HS0.out.qa
  have d2 := HS0.out.r.c2
  have e2 := HS0.out.r.f2
  refine (u_to w _ p ao n cap xs _ HS0.out.r 50 v0 s1 s2 H2.out H3.out).mono ?_
  rintro e w3 ⟨rfl, R, M⟩
  have HS1 := hid (HS0.out.go ⟨R, M⟩)
  clear R M c0 c1 c2 c3 f0 f1 f2 f3 a0 a1 a2 a3 g0 g1 g2 g3 d2 e2
  have hXB := HS1.out.qx.lt
  have hpB := HS1.out.r.lt
  have hAX := HS1.out.hX
  have hAp := HS1.out.hp
  have hXp := HS1.out.hpX
  obtain ⟨B, hB⟩ : ∃ B, B = w3.heap.size := ⟨_, rfl⟩
  rw [← hB] at hXB hpB
  have HB : Hid (B ≤ w3.heap.size) := hid (by omega)
  clear hB
  go_wp2_with fail
  go_loopw [8] (fun v wr => ∃ (m : Nat) (l' : List Int) (sr : RS) (lo : Option Addr) (lc : Nat), l'.length + m = v0 ∧ v = .int .i64 l'.length ∧ Own 3 .i64 B wr (.slice lo l'.length lc) l' ∧ Sg w wr p ao n cap xs X sr op 0 0 lo l'.length lc ∧ B ≤ wr.heap.size ∧ Hid ((l' ++ (rLs xs m sr).1, (rLs xs m sr).2) = (l, s3))) (fun v _ => v0 - (intOf v).toNat)
  case atStart => exact ⟨v0, [], s2, none, 0, by simp, rfl, Own.nil _ _ _ _, HS1.out, HB.out, hid (by rw [H4.out]; rfl)⟩
  case round =>
    obtain ⟨m, l', ⟨ai, ei⟩, lo, lc, hlm, rfl, hown, hS, hBr, HE⟩ := hrel
    have HSr := hid hS
    have hown' := hid hown
    have hAown : Hid (∀ b, Value.ownBlock (.slice lo l'.length lc) = some b → B ≤ b) := hid (fun b hb => (hown.lt b hb).1)
    clear hown hS
    obtain ⟨ln, hln⟩ : ∃ ln, ln = l'.length := ⟨_, rfl⟩
    rw [← hln] at hlm HSr ⊢
    have Hln := hid hln
    clear hln
    obtain ⟨c0, c1, c2, c3, f0, f1, f2, f3⟩ := HSr.out.qx
    obtain ⟨a0, a1, a2, a3, g0, g1, g2, g3⟩ := HSr.out.qa
    have d2 := HSr.out.r.c2
    have hXr := HSr.out.qx.lt
    have hpr := HSr.out.r.lt
    simp only at d2
    by_cases hm : m = 0
    · subst hm
      have hE : l' = l ∧ (⟨ai, ei⟩ : RS) = s3 := by
        have := HE.out
        simp only [rLs] at this
        simpa using this
      obtain ⟨hl', hs3⟩ := hE
      have hl2 := hl'.symm
      subst hl2
      have Hs3 := hid hs3
      have e := Hln.out
      subst e
      clear hs3
      go_wp2_with fail
      have H5' : Hid (rU xs ⟨ai, ei⟩ = (a, s4)) := hid (by rw [Hs3.out]; exact H5.out)
      refine (u_to w _ p ao n cap xs _ HSr.out.r 1000 a s4 s5 H5'.out H6.out).mono ?_
      rintro e w5 ⟨rfl, R, M⟩
      have HT2 := hid (HSr.out.go ⟨R, M⟩)
      have HS2 := hid (HT2.out.set1 a)
      have HOf := hid ((hown'.out.mv M hpB).mv (Mv.set X 1 w5 (.int .i64 a)) hXB)
      have HMb : Hid (w.heap.size < B) := hid (by omega)
      clear R M c0 c1 c2 c3 f0 f1 f2 f3 a0 a1 a2 a3 g0 g1 g2 g3 d2
      obtain ⟨⟨ke, ee⟩, hse⟩ : ∃ sz : RS, sz = s5 := ⟨_, rfl⟩
      rw [← hse] at HG HS2 HT2
      clear hse
      obtain ⟨c0, c1, c2, c3, f0, f1, f2, f3⟩ := HT2.out.qx
      obtain ⟨a0, a1, a2, a3, g0, g1, g2, g3⟩ := HT2.out.qa
      have d1 := HT2.out.r.c1
      have d2 := HT2.out.r.c2
      have hXp := HT2.out.hpX
      have hAX := HS2.out.hX
      have hAp := HS2.out.hp
      simp only at d1 d2
      by_cases h0 : ee = 0
      · subst h0
        have hg := HG.out
        unfold outI at hg
        rw [if_pos rfl] at hg
        cases hg
        go_wp2_with fail
        go_region
        obtain ⟨wf, hwf, ⟨q0, q1, q2, q3, _, _, _, _⟩, hbf, hof⟩ := get_fin2 (w := w) HS2.out.qa (Nat.le_refl _) HS2.out.r.base (.int .i64 op) (.int .i64 a) (.int .i64 0) (.slice lo l.length lc)
        rw [hwf]
        have Hof := hid (hof 3 .i64 _ _ _ HMb.out HOf.out)
        clear hwf hof
        go_wp2_with fail
        refine bodyPost_ret (v := .tuple #[iv op a 0  lo l.length lc, .int .i64 ke, .int .i64 0]) (by simp [results, Try.results46, go_sem, q0, q1, q2, q3]) rfl ⟨_, _, _, rfl, Hof.out.lift (Nat.le_of_lt HMb.out), hbf⟩
      · have h0' : (ee != 0) = true := by simp [h0]
        have hg := HG.out
        unfold outI at hg
        rw [if_neg h0] at hg
        cases hg
        go_wp2_with fail
        go_region
        obtain ⟨wf, hwf, ⟨q0, q1, q2, q3, _, _, _, _⟩, hbf, hof⟩ := get_fin2 (w := w) HS2.out.qa (Nat.le_refl _) HS2.out.r.base (.int .i64 0) (.int .i64 0) (.int .i64 0) (.slice none 0 0)
        rw [hwf]
        clear hwf hof
        go_wp2_with fail
        refine bodyPost_ret (v := .tuple #[iv 0 0 0 none 0 0, .int .i64 (0 : Nat), .int .i64 ee]) (by simp [results, Try.results46, go_sem, q0, q1, q2, q3]) rfl ⟨_, _, _, rfl, Own.nil _ _ _ _, hbf⟩
    · obtain ⟨m, rfl⟩ : ∃ j, m = j + 1 := ⟨m - 1, by omega⟩
      have hlt : (ln : Int) < (v0 : Int) := by omega
      by_cases h0 : ei = 0
      · subst h0
        obtain ⟨x, s6, hx⟩ : ∃ x s6, rA 3 xs ⟨ai, 0⟩ = (x, s6) := ⟨_, _, rfl⟩
        obtain ⟨s7, h7, h8⟩ := rA_u hx 1000 may3
        have H7 := hid h7
        have H8 := hid h8
        have HX := hid hx
        clear h7 h8 hx
        go_wp2_with fail
        have HWX : Hid ((Lit.int .i64 x).wf = true) := hid (by
          have := rU_bd xs ⟨ai, 0⟩
          rw [H7.out] at this
          simp only at this
          exact WalkArith.wf_i64 ⟨by omega, by omega⟩)
        go_region_law (first
          | (go_simp; go_at_call 59; refine (u_to w _ p ao n cap xs ⟨ai, 0⟩ (by first | exact HSr.out.r | exact HSr.out.r.below (Below.refl _ _).drew) 1000 x s7 s6 H7.out H8.out).mono ?_; rintro e w5 ⟨rfl, R, M⟩
             have hown5 : Own 3 .i64 B w5 (.slice lo ln lc) l' := by
               rw [Hln.out]
               first
                 | exact hown'.out.mv M hpB
                 | exact (hown'.out.drew).mv M hpB
             have HS5 : Hid (Sg w w5 p ao n cap xs X s6 op 0 0 lo ln lc) := hid (by first | exact HSr.out.go ⟨R, M⟩ | exact (HSr.out.below (Below.refl _ _).drew).go ⟨R, M⟩)
             have hB5 : B ≤ w5.heap.size := Nat.le_trans hBr (by have := M.size; simpa using this)
             have c35 := HS5.out.qx.c3
             have f35 := HS5.out.qx.f3
             have hX5 := HS5.out.qx.lt
             clear R M)
          | (refine step_append_one rfl (.tmp 82) (.tmp 85) 35 rfl 3 .i64 B 8 Try.underlying35 infoInt (.slice lo ln lc) l' rfl (hown5.alloc _) ⟨w5.heap.size, 0, none⟩ 1 1 [x] rfl (Rd.built _ _ _ _ HWX.out) (by rw [← Hln.out]; omega) (by rw [← Hln.out]; omega) (by simp; omega) ?_; intro v' w6 h6 h7
             have HS6 := hid ((HS5.out.below (Bl.alloc (Bl.refl w5) (.cells #[.int .i64 x] 3))).keep h7 hXB hpB)
             have hB6 : B ≤ w6.heap.size := Nat.le_trans hB5 (by have := h7.size; simp at this; omega)
             obtain ⟨lo6, lc6, rfl, _⟩ := h6.rd
             have Hown6 := hid h6
             have c36 := HS6.out.qx.c3
             have f36 := HS6.out.qx.f3
             have hX6 := HS6.out.qx.lt
             clear h6 h7)
          | fail)
        all_goals
          have HS7 := hid (HS6.out.set3 lo6 (l'.length + 1) lc6)
          have Hown7 := hid (Hown6.out.mv (Mv.set X 3 w6 (.slice lo6 (l' ++ [x]).length lc6)) hXB)
          have hB7 : B ≤ (w6.setCell ⟨X, 3, none⟩ (.slice lo6 (l'.length + 1) lc6)).heap.size := by simpa using hB6
          have hll : (l' ++ [x]).length = l'.length + 1 := by simp
          rw [hll] at Hown7
          generalize w6.setCell ⟨X, 3, none⟩ (.slice lo6 (l'.length + 1) lc6) = w7 at HS7 Hown7 hB7 ⊢
          have Hll := hid hll
          clear hll
          go_wp2_with fail
          go_roundw
          case rel =>
            refine ⟨m, l' ++ [x], s6, lo6, lc6, by rw [Hll.out, ← Hln.out]; omega, by rw [Hll.out, ← Hln.out]; go_num, by rw [Hll.out]; exact Hown7.out, by rw [Hll.out]; exact HS7.out, hB7, hid ?_⟩
            have := HE.out
            rw [rLs_go rfl HX.out] at this
            rw [← this]
            simp
          case measure => simp [intOf]; omega
      · have h0' : (ei == 0) = false := by simp [h0]
        have hE : l' = l ∧ (⟨ai, ei⟩ : RS) = s3 := by
          have := HE.out
          rw [rLs_stop h0] at this
          simpa using this
        obtain ⟨hl', hs3⟩ := hE
        have hl2 := hl'.symm
        subst hl2
        have Hs3 := hid hs3
        have e := Hln.out
        subst e
        clear hs3
        go_wp2_with fail
        have H5' : Hid (rU xs ⟨ai, ei⟩ = (a, s4)) := hid (by rw [Hs3.out]; exact H5.out)
        refine (u_to w _ p ao n cap xs _ HSr.out.r 1000 a s4 s5 H5'.out H6.out).mono ?_
        rintro e w5 ⟨rfl, R, M⟩
        have HT2 := hid (HSr.out.go ⟨R, M⟩)
        have HS2 := hid (HT2.out.set1 a)
        have HOf := hid ((hown'.out.mv M hpB).mv (Mv.set X 1 w5 (.int .i64 a)) hXB)
        have HMb : Hid (w.heap.size < B) := hid (by omega)
        clear R M c0 c1 c2 c3 f0 f1 f2 f3 a0 a1 a2 a3 g0 g1 g2 g3 d2
        obtain ⟨⟨ke, ee⟩, hse⟩ : ∃ sz : RS, sz = s5 := ⟨_, rfl⟩
        rw [← hse] at HG HS2 HT2
        clear hse
        obtain ⟨c0, c1, c2, c3, f0, f1, f2, f3⟩ := HT2.out.qx
        obtain ⟨a0, a1, a2, a3, g0, g1, g2, g3⟩ := HT2.out.qa
        have d1 := HT2.out.r.c1
        have d2 := HT2.out.r.c2
        have hXp := HT2.out.hpX
        have hAX := HS2.out.hX
        have hAp := HS2.out.hp
        simp only at d1 d2
        by_cases h0 : ee = 0
        · subst h0
          have hg := HG.out
          unfold outI at hg
          rw [if_pos rfl] at hg
          cases hg
          go_wp2_with fail
          go_region
          obtain ⟨wf, hwf, ⟨q0, q1, q2, q3, _, _, _, _⟩, hbf, hof⟩ := get_fin2 (w := w) HS2.out.qa (Nat.le_refl _) HS2.out.r.base (.int .i64 op) (.int .i64 a) (.int .i64 0) (.slice lo l.length lc)
          rw [hwf]
          have Hof := hid (hof 3 .i64 _ _ _ HMb.out HOf.out)
          clear hwf hof
          go_wp2_with fail
          refine bodyPost_ret (v := .tuple #[iv op a 0  lo l.length lc, .int .i64 ke, .int .i64 0]) (by simp [results, Try.results46, go_sem, q0, q1, q2, q3]) rfl ⟨_, _, _, rfl, Hof.out.lift (Nat.le_of_lt HMb.out), hbf⟩
        · have h0' : (ee != 0) = true := by simp [h0]
          have hg := HG.out
          unfold outI at hg
          rw [if_neg h0] at hg
          cases hg
          go_wp2_with fail
          go_region
          obtain ⟨wf, hwf, ⟨q0, q1, q2, q3, _, _, _, _⟩, hbf, hof⟩ := get_fin2 (w := w) HS2.out.qa (Nat.le_refl _) HS2.out.r.base (.int .i64 0) (.int .i64 0) (.int .i64 0) (.slice none 0 0)
          rw [hwf]
          clear hwf hof
          go_wp2_with fail
          refine bodyPost_ret (v := .tuple #[iv 0 0 0 none 0 0, .int .i64 (0 : Nat), .int .i64 ee]) (by simp [results, Try.results46, go_sem, q0, q1, q2, q3]) rfl ⟨_, _, _, rfl, Own.nil _ _ _ _, hbf⟩

/-- The reference's GetInstr answers what Get answers. -/
theorem refGet_to (ao : Option Addr) (n cap : Nat) (xs : List Int) (w : World) (hr : Rd .u8 w ao n cap xs) (I : Ins) (k : Nat) (er : Int) (hg : getI xs = (I, k, er)) :
    Calls Try.prog 46 #[.slice ao n cap] w (RetG w I k er) := by
  obtain ⟨op, ⟨i1, er1⟩, h1⟩ : ∃ op s1, rOne xs ⟨0, 0⟩ = (op, s1) := ⟨_, _, rfl⟩
  obtain ⟨J, s2, h2⟩ : ∃ J s2, rTail xs op ⟨i1, er1⟩ = (J, s2) := ⟨_, _, rfl⟩
  have hg' : outI J s2 = (I, k, er) := by
    unfold getI rIns at hg
    rw [h1] at hg
    simp only at hg
    rw [h2] at hg
    exact hg
  have hb := sh_bounds op
  have e : sh op = 0 ∨ sh op = 1 ∨ sh op = 2 ∨ sh op = 3 ∨ sh op = 4 ∨ sh op = 5 ∨ sh op = 6 ∨ sh op = 7 ∨ sh op = 8 ∨ sh op = 9 := by omega
  have h0 : sh op ≠ 1 → er1 = 0 := fun h => by
    have hop : op ≠ 0 := fun h0 => h (by rw [h0]; decide)
    exact rOne_ok h1 hop
  unfold rTail at h2
  rcases e with e | e | e | e | e | e | e | e | e | e <;> simp only [e] at h2 <;> simp at h2 <;> obtain ⟨rfl, rfl⟩ := h2
  · obtain rfl := h0 (by rw [e]; decide)
    exact getI_0 ao n cap xs w hr op i1 h1 e I k er hg'
  · exact getI_1 ao n cap xs w hr op i1 er1 h1 e I k er hg'
  · obtain rfl := h0 (by rw [e]; decide)
    obtain ⟨x, ⟨i2, er2⟩, h3⟩ : ∃ x s3, rOne xs ⟨i1, 0⟩ = (x, s3) := ⟨_, _, rfl⟩
    refine getI_2 ao n cap xs w hr op i1 h1 e x i2 er2 h3 I k er ?_
    unfold rRes at hg'
    rw [h3] at hg'
    exact hg'
  · obtain rfl := h0 (by rw [e]; decide)
    obtain ⟨s1, h3, h4⟩ := rA_u (rfl : rA 3 xs ⟨i1, 0⟩ = _) 1000 may3
    exact getI_3 ao n cap xs w hr op i1 h1 e _ s1 _ h3 h4 I k er hg'
  · obtain rfl := h0 (by rw [e]; decide)
    obtain ⟨v, s1, h3⟩ : ∃ v s1, rU xs ⟨i1, 0⟩ = (v, s1) := ⟨_, _, rfl⟩
    have hbd := rU_bd xs ⟨i1, 0⟩
    rw [h3] at hbd
    obtain ⟨v0, rfl⟩ : ∃ v0 : Nat, v = v0 := ⟨v.toNat, by have := hbd.1; simp only at this; omega⟩
    obtain ⟨l, s3, h5⟩ : ∃ l s3, rL xs ⟨i1, 0⟩ = (l, s3) := ⟨_, _, rfl⟩
    have h6 : rLs xs v0 (need (decide ((v0 : Int) ≤ 50)) s1) = (l, s3) := by
      unfold rL rCount at h5
      rw [h3] at h5
      exact h5
    rw [h5] at hg'
    obtain ⟨s4, h7, h8⟩ := rA_u (rfl : rA 4 xs s3 = _) 1000 may4
    exact getI_4 ao n cap xs w hr op i1 h1 e v0 s1 _ h3 rfl l s3 h6 _ s4 _ h7 h8 I k er hg'
  · obtain rfl := h0 (by rw [e]; decide)
    obtain ⟨s1, h3, h4⟩ := rA_u (rfl : rA 5 xs ⟨i1, 0⟩ = _) 1000 may5
    exact getI_5 ao n cap xs w hr op i1 h1 e _ s1 _ h3 h4 _ _ _ rfl rfl I k er hg'
  · obtain rfl := h0 (by rw [e]; decide)
    obtain ⟨s1, h3, h4⟩ := rA_u (rfl : rA 6 xs ⟨i1, 0⟩ = _) 3 may6
    exact getI_6 ao n cap xs w hr op i1 h1 e _ s1 _ h3 h4 _ _ rfl I k er hg'
  · obtain rfl := h0 (by rw [e]; decide)
    exact getI_7 ao n cap xs w hr op i1 h1 e _ _ _ rfl rfl I k er hg'
  · obtain rfl := h0 (by rw [e]; decide)
    exact getI_8 ao n cap xs w hr op i1 h1 e _ _ rfl I k er hg'
  · obtain rfl := h0 (by rw [e]; decide)
    exact getI_9 ao n cap xs w hr op i1 h1 e _ _ rfl I k er hg'
end Go.Proofs.Ytfambbpggodlkaa
