/- InstrAll: the walk. -/
import Derived.Test.YtapgiadenkflhaaInsAnyLaw
import Derived.Laws.OwnMore
namespace Go.Proofs.Ytapgiadenkflhaa
open Go.RowKit

theorem str_app (xs ys : List Int) : strOfNums (xs ++ ys) = strOfNums xs ++ strOfNums ys := by
  refine ByteArray.ext ?_
  rw [ByteArray.data_append]
  refine Array.toList_inj.1 ?_
  rw [Array.toList_append, strOfNums_data, strOfNums_data, strOfNums_data, List.map_append]
theorem str_len (xs : List Int) : (strOfNums xs).size = xs.length := by
  have h := congrArg List.length (strOfNums_data xs)
  rw [List.length_map] at h
  rw [← h, Array.length_toList]
  rfl
/-- 'append(nil, x...)'. -/
theorem run_append_nil_rd {P : Program} {w : World} (t ty E : TypeId) (k : IntKind) (bytes : Nat) (ht : P.underlying t = some (.slice E)) (hi : (P.info? E).map (fun i => (i.zero, i.size, i.bytes)) = some (some (.int k 0), 1, bytes))
    (ao : Option Addr) (n cap : Nat) (ys : List Int) (hr : Rd k w ao n cap ys) (h63 : n ≤ 4611686018427387904) (hbytes : n * bytes ≤ 140737488355328) :
    ∃ v' w', (Builtin.append_ #[t, t] ty #[.slice none 0 0, .slice ao n cap]).run P w = .ok v' w' ∧ Own E k w.heap.size w' v' ys ∧ Below w.heap.size w w' := by
  obtain ⟨i, hi0, hz, hsz, hby⟩ := info_parts hi
  cases ao with
  | none =>
    have hc := hr.nil rfl
    have hn : n = 0 := by have := hr.le; omega
    have hy : ys = [] := List.eq_nil_of_length_eq_zero (by rw [hr.len]; exact hn)
    subst hc hn hy
    exact ⟨_, _, run_append_owned_none (P := P) (w := w) w.heap.size t ty E i 1 ht hi0 (.slice none 0 0) 0 [] (World.ownsRow_nil w _ E 1), Own.nil _ _ _ _, Below.refl _ _⟩
  | some ad =>
    obtain ⟨v', w', hrun, h1, h2, _⟩ := run_append_own (P := P) w w.heap.size t ty E i (.int k 0) 1 bytes ht hi0 hz hsz hby rfl (by decide) (.slice none 0 0) 0 [] (World.ownsRow_nil w _ E 1) ad n cap (ys.map (Value.int k)) (by simp [hr.len]) (hr.news rfl) (ints_oneCell _ _) (by unfold maxLen; omega) (by simpa using hbytes) (Nat.le_refl _)
    refine ⟨v', w', hrun, ⟨?_, hr.wf⟩, (Below.refl _ _).grown h2 (Nat.le_refl _) (fun _ h => by cases h)⟩
    simpa [hr.len] using h1

theorem encL_bs : ∀ l : List Int, (∀ x ∈ l, 0 ≤ x ∧ x ≤ 1000) → ∀ y ∈ encL l, 0 ≤ y ∧ y ≤ 255
  | [], _, y, hy => by simp [encL] at hy
  | x :: r, h, y, hy => by
    rcases List.mem_append.1 hy with hy | hy
    · have hx := h x (by simp)
      exact encU_bs 9 x hx.1 (fits9 x hx.1 (by omega)) y hy
    · exact encL_bs r (fun z hz => h z (by simp [hz])) y hy
theorem encI_bs {op p q : Int} {l : List Int} (h : mayI op p q l = true) (hp : -9223372036854775808 ≤ p ∧ p ≤ 9223372036854775807) : ∀ x ∈ encI op p q l, 0 ≤ x ∧ x ≤ 255 := by
  obtain ⟨h1, h2, h3⟩ := may_parts h
  intro x hx
  rcases List.mem_cons.1 hx with rfl | hx
  · exact may_op h
  have hU : ∀ u : Int, 0 ≤ u → u ≤ 4294967295 → ∀ y ∈ encU 9 u, 0 ≤ y ∧ y ≤ 255 := fun u h0 h1 => encU_bs 9 u h0 (fits9 u h0 (by omega))
  have hb := sh_bounds op
  generalize hs : sh op = s at *
  have e : s = 0 ∨ s = 1 ∨ s = 2 ∨ s = 3 ∨ s = 4 ∨ s = 5 ∨ s = 6 ∨ s = 7 ∨ s = 8 ∨ s = 9 := by omega
  rcases e with rfl | rfl | rfl | rfl | rfl | rfl | rfl | rfl | rfl | rfl
  · simp [mayAS] at h1
  · simp [tailI] at hx
  · simp [tailI] at hx
    subst hx
    unfold resB
    (repeat' split) <;> simp
  · exact hU p (by simp [mayAS] at h1; omega) (by simp [mayAS] at h1; omega) x hx
  · have hl : l.length ≤ 50 ∧ ∀ x ∈ l, 0 ≤ x ∧ x ≤ 1000 := by simpa [mayLS, idx] using h3
    have hx' : x ∈ encU 9 (l.length : Int) ++ (encL l ++ encU 9 p) := hx
    rcases List.mem_append.1 hx' with hx | hx
    · exact hU _ (by omega) (by omega) x hx
    rcases List.mem_append.1 hx with hx | hx
    · exact encL_bs l hl.2 x hx
    · exact hU p (by simp [mayAS] at h1; omega) (by simp [mayAS] at h1; omega) x hx
  · have hx' : x ∈ encU 9 p ++ [0] := hx
    rcases List.mem_append.1 hx' with hx | hx
    · exact hU p (by simp [mayAS] at h1; omega) (by simp [mayAS] at h1; omega) x hx
    · simp at hx; subst hx; simp
  · have hx' : x ∈ encU 9 p ++ encU 9 q := hx
    rcases List.mem_append.1 hx' with hx | hx
    · exact hU p (by simp [mayAS] at h1; omega) (by simp [mayAS] at h1; omega) x hx
    · exact hU q (by simp [mayBS] at h2; omega) (by simp [mayBS] at h2; omega) x hx
  · simp [tailI] at hx; subst hx; simp
  · exact encS_bs 9 p (fitsS9 p hp.1 hp.2) x hx
  · exact encS_bs 9 p (fitsS9 p hp.1 hp.2) x hx
/-- Two have one text just if they are the same. -/
theorem same_text {op p q op' p' q' : Int} {l l' : List Int} (h : mayI op p q l = true) (hp : -9223372036854775808 ≤ p ∧ p ≤ 9223372036854775807) (h' : mayI op' p' q' l' = true) (hp' : -9223372036854775808 ≤ p' ∧ p' ≤ 9223372036854775807) :
    ((strOfNums (encI op' p' q' l')).toList == (strOfNums (encI op p q l)).toList) = eqI op p q l op' p' q' l' := by
  rw [Bool.eq_iff_iff, eqI_iff, beq_iff_eq]
  constructor
  · intro he
    exact encI_inj h hp h' hp' (strOfNums_inj (encI_bs h hp) (encI_bs h' hp') (str_eq he).symm)
  · rintro ⟨rfl, rfl, rfl, rfl⟩
    rfl

set_option maxHeartbeats 4000000 in
theorem instrAll_walk (op p q : Int) (ao : Option Addr) (n cap : Nat) (l : List Int) (op' p' q' : Int) (ao' : Option Addr) (n' cap' : Nat) (l' : List Int) (ho : Option Addr) (m bc : Nat) (hs : List Int) (ro : Option Addr) (r rc : Nat) (rs : List Int) (w : World)
    (hl : Rd .i64 w ao n cap l) (hp : -9223372036854775808 ≤ p ∧ p ≤ 9223372036854775807) (hl' : Rd .i64 w ao' n' cap' l') (hp' : -9223372036854775808 ≤ p' ∧ p' ≤ 9223372036854775807) (hh : Rd .u8 w ho m bc hs) (hr : Rd .u8 w ro r rc rs) :
    Calls Try.prog 3 #[iv op p q ao n cap, iv op' p' q' ao' n' cap', .slice ho m bc, .slice ro r rc] w fun e w' => e = .returned (.bool true) ∧ Below w.heap.size w w' := by
  have hcap := hh.cap63
  have hle := hh.le
  have hcap2 := hr.cap63
  have hle2 := hr.le
  have Hh := hid hh
  have Hr := hid hr
  have Hl := hid hl
  have Hl' := hid hl'
  clear hh hr hl hl'
  go_enter Try.func3, Try.ntmps3
  go_wp2_with fail
  refine (begun_to _).mono ?_
  rintro e w0 ⟨rfl, hb⟩
  have HB1 := hid (Bl.step (Bl.alloc (Bl.alloc (Bl.refl w) _) _) hb)
  have HQ1 := hid (((Quad.new w (.int .i64 op) (.int .i64 p) (.int .i64 q) (.slice ao n cap) 24).below (Bl.alloc (Bl.refl _) _)).below hb)
  have HR1 : Hid (Quad w0 (w.heap.size + 1) (.int .i64 op') (.int .i64 p') (.int .i64 q') (.slice ao' n' cap')) := hid (by
    have := (Quad.new (w.alloc (.cells #[.int .i64 op, .int .i64 p, .int .i64 q, .slice ao n cap] 24)) (.int .i64 op') (.int .i64 p') (.int .i64 q') (.slice ao' n' cap') 24).below hb
    simpa using this)
  have HX1 : Hid (Box4 w0 w.heap.size op p q ao n cap) := hid ⟨HQ1.out.c0, HQ1.out.c1, HQ1.out.c2, HQ1.out.c3⟩
  have HY1 : Hid (Box4 w0 (w.heap.size + 1) op' p' q' ao' n' cap') := hid ⟨HR1.out.c0, HR1.out.c1, HR1.out.c2, HR1.out.c3⟩
  have HL1 := hid (Hl.out.below HB1.out)
  have HM1 := hid (Hl'.out.below HB1.out)
  obtain ⟨B, hB⟩ : ∃ B, B = w0.heap.size := ⟨_, rfl⟩
  have hBB : B ≤ w0.heap.size := by omega
  have hxB : w.heap.size < B := by rw [hB]; exact HQ1.out.lt
  have hyB : w.heap.size + 1 < B := by rw [hB]; exact HR1.out.lt
  clear hb hB Hl Hl'
  go_wp2_with fail
  refine wp_region_below_tail 8 (by kernel_rfl) [Is (iv op p q ao n cap), IsIns B op p q (l.take 55), Is (iv op' p' q' ao' n' cap'), IsIns B op' p' q' (l'.take 55), Is (.slice ho m bc), Is (.slice ho (min m 8) bc), Is (.slice ro r rc), Is (.slice ro (min r 8) rc)] [0, 1, 2, 3, 4, 5, 6, 7] rfl (by kernel_rfl) rfl (by kernel_rfl) ?hopA ?hstA ?hendA
  case hopA =>
    refine ⟨⟨⟨_, _, _, _, _, _⟩, _, Is (iv op p q ao n cap), none, [], [(4, .pointer (some ⟨w.heap.size, 0, none⟩))], rfl, rfl, rfl, rfl, rfl, ⟨⟨by kernel_rfl, rfl⟩, trivial⟩, ?_⟩, ?_⟩
    · intro a w1 hC e4
      refine Or.inl ⟨iv op p q ao n cap, ?_, rfl⟩
      obtain ⟨hcw0, hcw1, hcw2, hcw3⟩ := HX1.out.below hC
      go_simp
    refine ⟨⟨⟨_, _, _, _, _, _⟩, _, IsIns B op p q (l.take 55), none, [(some 18, Is (iv op p q ao n cap))], [], rfl, rfl, rfl, rfl, rfl, trivial, ?_⟩, ?_⟩
    · intro a w1 hC  (h0 : a.tmps.getD 18 undef = _)
      refine Or.inr (Or.inl ⟨9, #[iv op p q ao n cap], ?_, ?_⟩)
      · go_simp
      · refine (cut_to op p q ao n cap l w1 (HL1.out.below hC)).mono ?_
        rintro e w2 ⟨lo, ln, lc, rfl, hown, hb⟩
        exact ⟨_, rfl, ⟨lo, ln, lc, rfl, hown.lift (Nat.le_trans hBB hC.size)⟩, hb⟩
    refine ⟨⟨⟨_, _, _, _, _, _⟩, _, Is (iv op' p' q' ao' n' cap'), none, [], [(5, .pointer (some ⟨w.heap.size + 1, 0, none⟩))], rfl, rfl, rfl, rfl, rfl, ⟨⟨by kernel_rfl, rfl⟩, trivial⟩, ?_⟩, ?_⟩
    · intro a w1 hC e5
      refine Or.inl ⟨iv op' p' q' ao' n' cap', ?_, rfl⟩
      obtain ⟨hcw0, hcw1, hcw2, hcw3⟩ := HY1.out.below hC
      go_simp
    refine ⟨⟨⟨_, _, _, _, _, _⟩, _, IsIns B op' p' q' (l'.take 55), none, [(some 20, Is (iv op' p' q' ao' n' cap')), (some 19, IsIns B op p q (l.take 55))], [], rfl, rfl, rfl, rfl, rfl, trivial, ?_⟩, ?_⟩
    · intro a w1 hC  (h2 : a.tmps.getD 20 undef = _) h1
      refine Or.inr (Or.inl ⟨9, #[iv op' p' q' ao' n' cap'], ?_, ?_⟩)
      · go_simp
      · refine (cut_to op' p' q' ao' n' cap' l' w1 (HM1.out.below hC)).mono ?_
        rintro e w2 ⟨lo, ln, lc, rfl, hown, hb⟩
        exact ⟨_, rfl, ⟨lo, ln, lc, rfl, hown.lift (Nat.le_trans hBB hC.size)⟩, hb⟩
    refine ⟨⟨⟨_, _, _, _, _, _⟩, _, Is (.slice ho m bc), none, [], [(2, .slice ho m bc)], rfl, rfl, rfl, rfl, rfl, ⟨⟨by kernel_rfl, rfl⟩, trivial⟩, ?_⟩, ?_⟩
    · intro a w1 hC e2
      refine Or.inl ⟨.slice ho m bc, ?_, rfl⟩
      go_simp
    refine ⟨⟨⟨_, _, _, _, _, _⟩, _, Is (.slice ho (min m 8) bc), none, [(some 22, Is (.slice ho m bc)), (some 21, IsIns B op' p' q' (l'.take 55))], [], rfl, rfl, rfl, rfl, rfl, trivial, ?_⟩, ?_⟩
    · intro a w1 hC  (h4 : a.tmps.getD 22 undef = _) h3
      refine Or.inr (Or.inl ⟨10, #[.slice ho m bc, .int .i64 8], ?_, ?_⟩)
      · go_simp
      · refine (short_any ho m bc 8 w1 hle hcap (by decide)).mono ?_
        rintro e w2 ⟨rfl, rfl⟩
        exact ⟨_, rfl, rfl, Below.refl _ _⟩
    refine ⟨⟨⟨_, _, _, _, _, _⟩, _, Is (.slice ro r rc), none, [], [(3, .slice ro r rc)], rfl, rfl, rfl, rfl, rfl, ⟨⟨by kernel_rfl, rfl⟩, trivial⟩, ?_⟩, ?_⟩
    · intro a w1 hC e3
      refine Or.inl ⟨.slice ro r rc, ?_, rfl⟩
      go_simp
    refine ⟨⟨⟨_, _, _, _, _, _⟩, _, Is (.slice ro (min r 8) rc), none, [(some 24, Is (.slice ro r rc)), (some 23, Is (.slice ho (min m 8) bc))], [], rfl, rfl, rfl, rfl, rfl, trivial, ?_⟩, ?_⟩
    · intro a w1 hC  (h6 : a.tmps.getD 24 undef = _) (h5 : a.tmps.getD 23 undef = _)
      refine Or.inr (Or.inl ⟨10, #[.slice ro r rc, .int .i64 8], ?_, ?_⟩)
      · go_simp
      · refine (short_any ro r rc 8 w1 hle2 hcap2 (by decide)).mono ?_
        rintro e w2 ⟨rfl, rfl⟩
        exact ⟨_, rfl, rfl, Below.refl _ _⟩
    exact trivial
  case hstA => exact ⟨Stays.is _, Stays.ins _ _ _ _ _, Stays.is _, Stays.ins _ _ _ _ _, Stays.is _, Stays.is _, Stays.is _, Stays.is _, trivial⟩
  case hendA =>
    intro w1 hC
    rintro _ rfl
    intro x1 h1
    rintro _ rfl
    intro x3 h3
    rintro _ rfl
    rintro _ rfl
    rintro _ rfl
    rintro _ rfl
    obtain ⟨lo, ln, lc, rfl, hown⟩ := h1
    obtain ⟨lo', ln', lc', rfl, hown'⟩ := h3
    simp only [Ends, Act.put, List.setIfInBounds_toArray, List.set_cons_succ, List.set_cons_zero, List.drop_succ_cons, List.drop_zero]
    have hQ := HQ1.out.below hC
    have hR := HR1.out.below hC
    have HB2 := hid (HB1.out.trans (hC.mono HB1.out.size))
    have hlx := hQ.lt
    have hly := hR.lt
    obtain ⟨c0, c1, c2, c3, f0, f1, f2, f3⟩ := hQ
    obtain ⟨d0, d1, d2, d3, g0, g1, g2, g3⟩ := hR
    have hQ := HQ1.out.below hC
    have hR := HR1.out.below hC
    clear hC
    obtain ⟨wx, hwx⟩ : ∃ wx, wx = ((((w1.setCell ⟨w.heap.size, 0, none⟩ (.int .i64 op)).setCell ⟨w.heap.size, 1, none⟩ (.int .i64 p)).setCell ⟨w.heap.size, 2, none⟩ (.int .i64 q)).setCell ⟨w.heap.size, 3, none⟩ (.slice lo ln lc)) := ⟨_, rfl⟩
    obtain ⟨w3, hw3⟩ : ∃ w3, w3 = ((((wx.setCell ⟨w.heap.size + 1, 0, none⟩ (.int .i64 op')).setCell ⟨w.heap.size + 1, 1, none⟩ (.int .i64 p')).setCell ⟨w.heap.size + 1, 2, none⟩ (.int .i64 q')).setCell ⟨w.heap.size + 1, 3, none⟩ (.slice lo' ln' lc')) := ⟨_, rfl⟩
    have hQ3 : Quad w3 (w.heap.size) (.int .i64 op) (.int .i64 p) (.int .i64 q) (.slice lo ln lc) := by
      rw [hw3, hwx]
      exact ((((hQ.setAll (.int .i64 op) (.int .i64 p) (.int .i64 q) (.slice lo ln lc)).other (p := w.heap.size + 1) (by omega) 0 _).other (by omega) 1 _).other (by omega) 2 _).other (by omega) 3 _
    have hR3 : Quad w3 (w.heap.size + 1) (.int .i64 op') (.int .i64 p') (.int .i64 q') (.slice lo' ln' lc') := by
      rw [hw3, hwx]
      exact (((((hR.other (p := w.heap.size) (by omega) 0 _).other (by omega) 1 _).other (by omega) 2 _).other (by omega) 3 _).setAll (.int .i64 op') (.int .i64 p') (.int .i64 q') (.slice lo' ln' lc'))
    have HX3 : Hid (Box4 w3 w.heap.size op p q lo ln lc) := hid ⟨hQ3.c0, hQ3.c1, hQ3.c2, hQ3.c3⟩
    have HY3 : Hid (Box4 w3 (w.heap.size + 1) op' p' q' lo' ln' lc') := hid ⟨hR3.c0, hR3.c1, hR3.c2, hR3.c3⟩
    have HL3 : Hid (Rd .i64 w3 lo ln lc (l.take 55)) := hid (by rw [hw3, hwx]; exact (((((((((hown.mv (Mv.set (w.heap.size) 0 _ _) hxB).mv (Mv.set (w.heap.size) 1 _ _) hxB).mv (Mv.set (w.heap.size) 2 _ _) hxB).mv (Mv.set (w.heap.size) 3 _ _) hxB).mv (Mv.set (w.heap.size + 1) 0 _ _) hyB).mv (Mv.set (w.heap.size + 1) 1 _ _) hyB).mv (Mv.set (w.heap.size + 1) 2 _ _) hyB).mv (Mv.set (w.heap.size + 1) 3 _ _) hyB)).rdAt)
    have HM3 : Hid (Rd .i64 w3 lo' ln' lc' (l'.take 55)) := hid (by rw [hw3, hwx]; exact (((((((((hown'.mv (Mv.set (w.heap.size) 0 _ _) hxB).mv (Mv.set (w.heap.size) 1 _ _) hxB).mv (Mv.set (w.heap.size) 2 _ _) hxB).mv (Mv.set (w.heap.size) 3 _ _) hxB).mv (Mv.set (w.heap.size + 1) 0 _ _) hyB).mv (Mv.set (w.heap.size + 1) 1 _ _) hyB).mv (Mv.set (w.heap.size + 1) 2 _ _) hyB).mv (Mv.set (w.heap.size + 1) 3 _ _) hyB)).rdAt)
    have HB3 : Hid (Below w.heap.size w w3) := hid (by rw [hw3, hwx]; exact Bl.set (Bl.set (Bl.set (Bl.set (Bl.set (Bl.set (Bl.set (Bl.set HB2.out (Nat.le_refl _) _) (Nat.le_refl _) _) (Nat.le_refl _) _) (Nat.le_refl _) _) (Nat.le_succ _) _) (Nat.le_succ _) _) (Nat.le_succ _) _) (Nat.le_succ _) _)
    have HW3 : Hid (w3 = _) := hid (by rw [hw3, hwx])
    clear hown hown' hQ hR hQ3 hR3 hw3 hwx HQ1 HR1 HX1 HY1 HL1 HM1 HB1 HB2
    obtain ⟨l2, hl2⟩ : ∃ l2, l2 = l.take 55 := ⟨_, rfl⟩
    obtain ⟨l2', hl2'⟩ : ∃ l2', l2' = l'.take 55 := ⟨_, rfl⟩
    rw [← hl2] at HL3
    rw [← hl2'] at HM3
    clear hl2 hl2'
    have HH3 := hid ((Hh.out.below HB3.out).short 8)
    have HT3 := hid ((Hr.out.below HB3.out).short 8)
    obtain ⟨hs2, hhs2⟩ : ∃ hs2, hs2 = hs.take (min m 8) := ⟨_, rfl⟩
    obtain ⟨m2, hm2⟩ : ∃ m2, m2 = min m 8 := ⟨_, rfl⟩
    obtain ⟨rs2, hrs2⟩ : ∃ rs2, rs2 = rs.take (min r 8) := ⟨_, rfl⟩
    obtain ⟨r2, hr2⟩ : ∃ r2, r2 = min r 8 := ⟨_, rfl⟩
    rw [← hhs2, ← hm2] at HH3
    rw [← hrs2, ← hr2] at HT3
    have hm8 : m2 ≤ 8 := by omega
    have hr8 : r2 ≤ 8 := by omega
    have HM2 := hid hm2
    have HR2 := hid hr2
    clear hhs2 hm2 hrs2 hr2
    go_wp2_with fail
    rw [← HW3.out, ← HM2.out, ← HR2.out]
    clear HW3 c0 c1 c2 c3 f0 f1 f2 f3 d0 d1 d2 d3 g0 g1 g2 g3 hlx hly
    obtain ⟨t, ht⟩ : ∃ t, mayI op p q l2 = t := ⟨_, rfl⟩
    obtain ⟨t', ht'⟩ : ∃ t, mayI op' p' q' l2' = t := ⟨_, rfl⟩
    obtain ⟨eb, heb⟩ : ∃ eb, eqI op p q l2 op' p' q' l2' = eb := ⟨_, rfl⟩
    have HT := hid ht
    have HT' := hid ht'
    have HE := hid heb
    clear ht ht' heb
    refine (mayInstr_to op p q lo ln lc l2 t HT.out _ HL3.out).mono ?_
    rintro e w4 ⟨rfl, hb⟩
    have HX4 := hid (HX3.out.below hb)
    have HY4 := hid (HY3.out.below hb)
    have HL4 := hid (HL3.out.below hb)
    have HM4 := hid (HM3.out.below hb)
    have HB4 := hid (Bl.step HB3.out hb)
    have HH4 := hid (HH3.out.below hb)
    have HT4 := hid (HT3.out.below hb)
    clear hb HX3 HY3 HL3 HM3 HB3 HH3 HT3
    obtain ⟨c0, c1, c2, c3⟩ := HX4.out
    obtain ⟨d0, d1, d2, d3⟩ := HY4.out
    have hlx := HX4.out.lt
    have hly := HY4.out.lt
    cases t
    · go_wp2_with fail
      refine wp_region_quiet_below (by kernel_rfl) (by kernel_rfl) ?_
      have hbc := fun x => @Bw.cell w4 x
      repeat (go_big_quiet_step (first
        | (go_at_call 12; exact Calls.bw (may_to op p q lo ln lc l2 false HT.out _ (HL4.out.below (Bw.h _))))
        | (go_at_call 13; exact Calls.bw (eq_to op p q lo ln lc l2 op' p' q' lo' ln' lc' l2' eb HE.out _ (HL4.out.below (Bw.h _)) (HM4.out.below (Bw.h _))))
        | (go_at_call 14; exact Calls.bw (eqInstr_to op p q lo ln lc l2 op' p' q' lo' ln' lc' l2' eb HE.out _ (HL4.out.below (Bw.h _)) (HM4.out.below (Bw.h _))))))
      refine wpQuiet_nil ?_
      rintro _ ⟨x, rfl⟩
      have HB5 := hid (Bl.step HB4.out x.h)
      clear hbc
      generalize x.w = w5 at HB5 ⊢
      go_wp2_with fail
      go_ret
      exact ⟨rfl, HB5.out⟩
    · go_wp2_with fail
      refine wp_region_quiet_below (by kernel_rfl) (by kernel_rfl) ?_
      have hbc := fun x => @Bw.cell w4 x
      repeat (go_big_quiet_step (first
        | (go_at_call 12; exact Calls.bw (may_to op p q lo ln lc l2 true HT.out _ (HL4.out.below (Bw.h _))))
        | (go_at_call 13; exact Calls.bw (eq_to op p q lo ln lc l2 op' p' q' lo' ln' lc' l2' eb HE.out _ (HL4.out.below (Bw.h _)) (HM4.out.below (Bw.h _))))
        | (go_at_call 14; exact Calls.bw (eqInstr_to op p q lo ln lc l2 op' p' q' lo' ln' lc' l2' eb HE.out _ (HL4.out.below (Bw.h _)) (HM4.out.below (Bw.h _))))))
      refine wpQuiet_nil ?_
      rintro _ ⟨x, rfl⟩
      have HX5 := hid (HX4.out.below x.h)
      have HY5 := hid (HY4.out.below x.h)
      have HL5 := hid (HL4.out.below x.h)
      have HM5 := hid (HM4.out.below x.h)
      have HB5 := hid (Bl.step HB4.out x.h)
      have HH5 := hid (HH4.out.below x.h)
      have HT5 := hid (HT4.out.below x.h)
      clear hbc HX4 HY4 HL4 HM4 HB4 HH4 HT4 c0 c1 c2 c3 d0 d1 d2 d3 hlx hly
      generalize x.w = w5 at HX5 HY5 HL5 HM5 HB5 HH5 HT5 ⊢
      go_wp2_with fail
      refine wp_region_below_tail 3 (by kernel_rfl) [Is (.slice ho m2 bc), IsRd .u8 hs2, Is (iv op p q lo ln lc)] [0, 1, 2] rfl (by kernel_rfl) rfl (by kernel_rfl) ?hopB ?hstB ?hendB
      case hopB =>
        refine ⟨⟨⟨_, _, _, _, _, _⟩, _, Is (.slice ho m2 bc), none, [], [(2, .slice ho m2 bc)], rfl, rfl, rfl, rfl, rfl, ⟨⟨by kernel_rfl, rfl⟩, trivial⟩, ?_⟩, ?_⟩
        · intro a w1 hC e2
          refine Or.inl ⟨.slice ho m2 bc, ?_, rfl⟩
          go_simp
        refine ⟨⟨⟨_, _, _, _, _, _⟩, _, IsRd .u8 hs2, none, [(some 43, Is (.slice ho m2 bc))], [], rfl, rfl, rfl, rfl, rfl, trivial, ?_⟩, ?_⟩
        · intro a w1 hC  (h0 : a.tmps.getD 43 undef = _)
          obtain ⟨v1, w2, hrun, hown, hbel⟩ := run_append_nil_rd (P := Try.prog) (w := w1) 25 25 5 .u8 1 Try.underlying25 infoU8 _ _ _ _ (HH5.out.below hC) (by omega) (by omega)
          obtain ⟨ao1, cap1, rfl, hrd⟩ := hown.rd
          refine Or.inr (Or.inr ⟨_, w2, ?_, ⟨ao1, cap1, rfl, hrd⟩, hbel⟩)
          exact exec_append rfl rfl h0 hrun
        refine ⟨⟨⟨_, _, _, _, _, _⟩, _, Is (iv op p q lo ln lc), none, [], [(4, .pointer (some ⟨w.heap.size, 0, none⟩))], rfl, rfl, rfl, rfl, rfl, ⟨⟨by kernel_rfl, rfl⟩, trivial⟩, ?_⟩, ?_⟩
        · intro a w1 hC e4
          refine Or.inl ⟨iv op p q lo ln lc, ?_, rfl⟩
          obtain ⟨hcw0, hcw1, hcw2, hcw3⟩ := HX5.out.below hC
          go_simp
        exact trivial
      case hstB => exact ⟨Stays.is _, Stays.rd _ _, Stays.is _, trivial⟩
      case hendB =>
        intro w1 hC
        rintro _ rfl
        intro x1 h1
        rintro _ rfl
        obtain ⟨ho2, hc2, rfl, hrh⟩ := h1
        simp only [Ends, Act.put, List.setIfInBounds_toArray, List.set_cons_succ, List.set_cons_zero, List.drop_succ_cons, List.drop_zero]
        have HX6 := hid (HX5.out.below hC)
        have HY6 := hid (HY5.out.below hC)
        have HL6 := hid (HL5.out.below hC)
        have HM6 := hid (HM5.out.below hC)
        have HB6 := hid (Bl.step HB5.out hC)
        have HH6 := hid (HH5.out.below hC)
        have HT6 := hid (HT5.out.below hC)
        have HRH := hid hrh
        clear hC hrh HX5 HY5 HL5 HM5 HB5 HH5 HT5
        have hhl : hs2.length = m2 := HH6.out.len
        have HHL := hid hhl
        have hh8 : hs2.length ≤ 1000000 := by omega
        clear hhl
        go_wp2_with fail
        refine (put_to ho2 _ hc2 hs2 op p q lo ln lc l2 _ HT.out hp HRH.out hh8 HL6.out).mono ?_
        rintro e w7 ⟨v, rfl, hv, hb⟩
        obtain ⟨es, hes⟩ : ∃ es, es = encI op p q l2 := ⟨_, rfl⟩
        obtain ⟨ps, hps⟩ : ∃ ps, ps = hs2 ++ es := ⟨_, rfl⟩
        rw [← hes, ← hps] at hv
        obtain ⟨po, pc, rfl, hrp⟩ := hv.rd
        have HX7 := hid (HX6.out.below hb)
        have HY7 := hid (HY6.out.below hb)
        have HL7 := hid (HL6.out.below hb)
        have HM7 := hid (HM6.out.below hb)
        have HB7 := hid (Bl.step HB6.out hb)
        have HH7 := hid (HH6.out.below hb)
        have HT7 := hid (HT6.out.below hb)
        have HP7 := hid hrp
        obtain ⟨pl, hpl⟩ : ∃ pl, pl = ps.length := ⟨_, rfl⟩
        rw [← hpl] at HP7 ⊢
        have HES := hid hes
        have HPS := hid hps
        have HPL := hid hpl
        have hsum : pl = m2 + es.length := by rw [hpl, hps, List.length_append, HHL.out]
        have HSUM := hid hsum
        have hel : es.length ≤ 20001 := by
          have := tailI_len (sh op) p q l2 (Nat.le_trans (may_len HT.out) (by decide))
          rw [hes]
          simp [encI]
          omega
        have hpl30 : pl ≤ 30000 := by omega
        clear hb hv hrp hes hps hpl hsum HX6 HY6 HL6 HM6 HB6 HH6 HT6 HRH
        go_wp2_with fail
        refine wp_region_below (by kernel_rfl) [Is (.slice po pl pc), Is (.string (strOfNums ps)), Is (.slice ho m2 bc), Is (.string (strOfNums hs2)), Is (iv op p q lo ln lc), IsRd .u8 es, Is (.string (strOfNums es)), Is (.string (strOfNums ps)), Is (.bool false)] [0, 1, 2, 3, 4, 5, 6, 7, 8] rfl (by kernel_rfl) rfl ?hopC ?hstC ?hendC
        case hopC =>
          refine ⟨⟨⟨_, _, _, _, _, _⟩, _, Is (.slice po pl pc), none, [], [(11, .slice po pl pc)], rfl, rfl, rfl, rfl, rfl, ⟨⟨by kernel_rfl, rfl⟩, trivial⟩, ?_⟩, ?_⟩
          · intro a w1 hC e11
            refine Or.inl ⟨.slice po pl pc, ?_, rfl⟩
            go_simp
          refine ⟨⟨⟨_, _, _, _, _, _⟩, _, Is (.string (strOfNums ps)), none, [(some 47, Is (.slice po pl pc))], [], rfl, rfl, rfl, rfl, rfl, trivial, ?_⟩, ?_⟩
          · intro a w1 hC  (h0 : a.tmps.getD 47 undef = _)
            refine Or.inl ⟨.string (strOfNums ps), ?_, rfl⟩
            have hcv := conv_str (P := Try.prog) (HP7.out.below hC) 25 9 5 Try.underlying25 Try.underlying5 Try.underlying9
            go_simp
          refine ⟨⟨⟨_, _, _, _, _, _⟩, _, Is (.slice ho m2 bc), none, [], [(2, .slice ho m2 bc)], rfl, rfl, rfl, rfl, rfl, ⟨⟨by kernel_rfl, rfl⟩, trivial⟩, ?_⟩, ?_⟩
          · intro a w1 hC e2
            refine Or.inl ⟨.slice ho m2 bc, ?_, rfl⟩
            go_simp
          refine ⟨⟨⟨_, _, _, _, _, _⟩, _, Is (.string (strOfNums hs2)), none, [(some 49, Is (.slice ho m2 bc))], [], rfl, rfl, rfl, rfl, rfl, trivial, ?_⟩, ?_⟩
          · intro a w1 hC  (h2 : a.tmps.getD 49 undef = _)
            refine Or.inl ⟨.string (strOfNums hs2), ?_, rfl⟩
            have hcv := conv_str (P := Try.prog) (HH7.out.below hC) 25 9 5 Try.underlying25 Try.underlying5 Try.underlying9
            go_simp
          refine ⟨⟨⟨_, _, _, _, _, _⟩, _, Is (iv op p q lo ln lc), none, [], [(4, .pointer (some ⟨w.heap.size, 0, none⟩))], rfl, rfl, rfl, rfl, rfl, ⟨⟨by kernel_rfl, rfl⟩, trivial⟩, ?_⟩, ?_⟩
          · intro a w1 hC e4
            refine Or.inl ⟨iv op p q lo ln lc, ?_, rfl⟩
            obtain ⟨hcw0, hcw1, hcw2, hcw3⟩ := HX7.out.below hC
            go_simp
          refine ⟨⟨⟨_, _, _, _, _, _⟩, _, IsRd .u8 es, none, [(some 51, Is (iv op p q lo ln lc))], [], rfl, rfl, rfl, rfl, rfl, trivial, ?_⟩, ?_⟩
          · intro a w1 hC  (h4 : a.tmps.getD 51 undef = _)
            refine Or.inr (Or.inl ⟨16, #[iv op p q lo ln lc], ?_, ?_⟩)
            · go_simp
            · refine (refPut_to op p q lo ln lc l2 w1 HT.out hp (HL7.out.below hC)).mono ?_
              rintro e w2 ⟨vv, rfl, hown, hbel⟩
              rw [← HES.out] at hown
              obtain ⟨ao1, cap1, rfl, hrd⟩ := hown.rd
              exact ⟨_, rfl, ⟨ao1, cap1, rfl, hrd⟩, hbel⟩
          refine ⟨⟨⟨_, _, _, _, _, _⟩, _, Is (.string (strOfNums es)), none, [(some 52, IsRd .u8 es)], [], rfl, rfl, rfl, rfl, rfl, trivial, ?_⟩, ?_⟩
          · intro a w1 hC  h5
            obtain ⟨ao1, cap1, e5, hrd⟩ := h5
            have e5 : a.tmps.getD 52 undef = _ := e5
            refine Or.inl ⟨.string (strOfNums es), ?_, rfl⟩
            have hcv := conv_str (P := Try.prog) hrd 25 9 5 Try.underlying25 Try.underlying5 Try.underlying9
            go_simp
          refine ⟨⟨⟨_, _, _, _, _, _⟩, _, Is (.string (strOfNums ps)), none, [(some 50, Is (.string (strOfNums hs2))), (some 53, Is (.string (strOfNums es)))], [], rfl, rfl, rfl, rfl, rfl, trivial, ?_⟩, ?_⟩
          · intro a w1 hC  (h3 : a.tmps.getD 50 undef = _) (h6 : a.tmps.getD 53 undef = _)
            refine Or.inl ⟨.string (strOfNums hs2 ++ strOfNums es), ?_, ?_⟩
            · go_simp
              rw [str_len, str_len]
              have := HHL.out
              omega
            · show _ = _
              rw [← str_app, ← HPS.out]
          refine ⟨⟨⟨_, _, _, _, _, _⟩, _, Is (.bool false), none, [(some 48, Is (.string (strOfNums ps))), (some 54, Is (.string (strOfNums ps)))], [], rfl, rfl, rfl, rfl, rfl, trivial, ?_⟩, ?_⟩
          · intro a w1 hC  (h1 : a.tmps.getD 48 undef = _) (h7 : a.tmps.getD 54 undef = _)
            refine Or.inl ⟨.bool false, ?_, rfl⟩
            go_simp
          exact trivial
        case hstC => exact ⟨Stays.is _, Stays.is _, Stays.is _, Stays.is _, Stays.is _, Stays.rd _ _, Stays.is _, Stays.is _, Stays.is _, trivial⟩
        case hendC =>
          intro w1 hC
          rintro _ rfl
          rintro _ rfl
          rintro _ rfl
          rintro _ rfl
          rintro _ rfl
          intro x5 h5
          rintro _ rfl
          rintro _ rfl
          rintro _ rfl
          simp only [Ends, Act.put, List.setIfInBounds_toArray, List.set_cons_succ, List.set_cons_zero]
          have HX8 := hid (HX7.out.below hC)
          have HY8 := hid (HY7.out.below hC)
          have HL8 := hid (HL7.out.below hC)
          have HM8 := hid (HM7.out.below hC)
          have HB8 := hid (Bl.step HB7.out hC)
          have HH8 := hid (HH7.out.below hC)
          have HT8 := hid (HT7.out.below hC)
          have HP8 := hid (HP7.out.below hC)
          clear hC HX7 HY7 HL7 HM7 HB7 HH7 HT7 HP7 h5
          have hsum := HSUM.out
          have hpc : pl ≤ pc := HP8.out.le
          have hpc63 := HP8.out.cap63
          have hcut := run_cut_l 25 elem_b size_b po pl pc (m2 : Int) m2 rfl (by omega)
          have hcr := HP8.out.cut m2 pl (by omega) (Nat.le_refl _)
          have hdr : (ps.take pl).drop m2 = es := by
            rw [List.take_of_length_le (by rw [HPL.out]; exact Nat.le_refl _), HPS.out, ← HHL.out]
            simp
          rw [hdr] at hcr
          obtain ⟨el, hel2⟩ : ∃ el, el = pl - m2 := ⟨_, rfl⟩
          obtain ⟨ec, hec2⟩ : ∃ ec, ec = pc - m2 := ⟨_, rfl⟩
          obtain ⟨eo, heo2⟩ : ∃ eo, eo = cutAt po m2 pc := ⟨_, rfl⟩
          rw [← hel2, ← hec2, ← heo2] at hcr hcut
          have HC8 := hid hcr
          have hell : es.length = el := hcr.len
          have HELL := hid hell
          have hel20 : el ≤ 20001 := by omega
          have hdiff : (pl : Int) - (m2 : Int) = (el : Int) := by omega
          have HDF := hid hdiff
          have HCUT := hid hcut
          clear hcr hdr hell hdiff hel2 hec2 heo2 hsum
          go_wp2_with (first
            | (at_builtin; refine wpList_append_rd rfl (.const (.slice none 0 0)) (.tmp 60) 25 rfl 5 .u8 w1.heap.size 1 Try.underlying25 infoU8 _ [] rfl (Own.nil _ _ _ _) eo el ec es rfl HC8.out (by simp; omega) (by simp; omega) (Nat.le_refl _) ?_; intro v2 w9 o2 b2 _; rw [List.nil_append] at o2; have HO2 := hid o2; have HB9 := hid b2; clear o2 b2)
            | (at_builtin; refine wpList_append_rd rfl (.tmp 61) (.tmp 62) 25 rfl 5 .u8 w1.heap.size 1 Try.underlying25 infoU8 _ es rfl HO2.out ro r2 rc rs2 rfl (HT8.out.below HB9.out) (by have := HELL.out; omega) (by have := HELL.out; omega) HB9.out.size ?_; intro v3 wa o3 b3 _; obtain ⟨ts, hts⟩ : ∃ ts, ts = es ++ rs2 := ⟨_, rfl⟩; rw [← hts] at o3; have HTS := hid hts; obtain ⟨to3, tc3, rfl, hr3⟩ := o3.rd; have HR3 := hid hr3; have HB10 := hid (HB9.out.trans b3); clear o3 b3 hr3 hts)
            | fail)
          have hgt : getI ts = (⟨op, p, q, l2⟩, el, 0) := by
            rw [HTS.out, HES.out]
            have := getI_enc op p q l2 rs2 HT.out hp
            rw [← HES.out, HELL.out] at this
            rw [← HES.out]
            exact this
          have HGT := hid hgt
          clear hgt
          refine (get_to to3 _ tc3 ts _ HR3.out _ el 0 HGT.out).mono ?_
          rintro e wb ⟨zo, zn, zc, rfl, hown, hb⟩
          have hb' := HB10.out.trans (hb.mono HB10.out.size)
          have HXb := hid (HX8.out.below hb')
          have HYb := hid (HY8.out.below hb')
          have HLb := hid (HL8.out.below hb')
          have HMb := hid (HM8.out.below hb')
          have HBb := hid (Bl.step HB8.out hb')
          have HHb := hid (HH8.out.below hb')
          have HPb := hid (HP8.out.below hb')
          have HCb := hid (HC8.out.below hb')
          have HZb := hid hown.rdAt
          clear hcut hb hb' hown HX8 HY8 HL8 HM8 HB8 HH8 HT8 HP8 HC8 HB10 HR3 HO2 HB9
          simp only
          obtain ⟨c0, c1, c2, c3⟩ := HXb.out
          have hlx := HXb.out.lt
          have hee : (el : Int) = (pl : Int) - (m2 : Int) := HDF.out.symm
          go_wp2_with fail
          refine (eqInstr_to op p q zo zn zc l2 op p q lo ln lc l2 true (eqI_refl _ _ _ _) _ (HZb.out.below (Bl.alloc (Bl.refl _) _)) (HLb.out.below (Bl.alloc (Bl.refl _) _))).mono ?_
          rintro e wd ⟨rfl, hb⟩
          have hb' := Bl.step (Bl.alloc (Bl.refl wb) _) hb
          have HX9 := hid (HXb.out.below hb')
          have HY9 := hid (HYb.out.below hb')
          have HL9 := hid (HLb.out.below hb')
          have HM9 := hid (HMb.out.below hb')
          have HB9 := hid (Bl.step HBb.out hb')
          have HH9 := hid (HHb.out.below hb')
          have HP9 := hid (HPb.out.below hb')
          have HC9 := hid (HCb.out.below hb')
          clear hb hb' HXb HYb HLb HMb HBb HHb HPb HCb HZb hee c0 c1 c2 c3 hlx
          cases t'
          · go_wp2_with fail
            refine wp_region_below (by kernel_rfl) [Is (iv op' p' q' lo' ln' lc'), Is (.bool false), Is (.bool true), Is (.bool true), Is ?vD4, Is ?vD5, Is ?vD6, Is ?vD7, Is ?vD8, Is ?vD9, Is ?vD10, Is ?vD11, Is ?vD12, Is ?vD13, Is ?vD14, Is ?vD15, Is ?vD16, Is (.bool true), Is (.bool true)] [0, 1, 2, 3, 4, 5, 6, 7, 8, 9, 10, 11, 12, 13, 14, 15, 16, 17, 18] rfl (by kernel_rfl) rfl ?hopD ?hstD ?hendD
            case hopD =>
              refine ⟨⟨⟨_, _, _, _, _, _⟩, _, Is (iv op' p' q' lo' ln' lc'), none, [], [(5, .pointer (some ⟨w.heap.size + 1, 0, none⟩))], rfl, rfl, rfl, rfl, rfl, ⟨⟨by kernel_rfl, rfl⟩, trivial⟩, ?_⟩, ?_⟩
              · intro a w1 hC e5
                refine Or.inl ⟨iv op' p' q' lo' ln' lc', ?_, rfl⟩
                obtain ⟨hcw0, hcw1, hcw2, hcw3⟩ := HY9.out.below hC
                go_simp
              refine ⟨⟨⟨_, _, _, _, _, _⟩, _, Is (.bool false), none, [(some 85, Is (iv op' p' q' lo' ln' lc'))], [], rfl, rfl, rfl, rfl, rfl, trivial, ?_⟩, ?_⟩
              · intro a w1 hC  (h0 : a.tmps.getD 85 undef = _)
                refine Or.inr (Or.inl ⟨11, #[iv op' p' q' lo' ln' lc'], ?_, ?_⟩)
                · go_simp
                · refine (mayInstr_to op' p' q' lo' ln' lc' l2' false HT'.out w1 (HM9.out.below hC)).mono ?_
                  rintro e w2 ⟨rfl, hb⟩
                  exact ⟨_, rfl, rfl, hb⟩
              refine ⟨⟨⟨_, _, _, _, _, _⟩, _, Is (.bool true), none, [(some 86, Is (.bool false))], [], rfl, rfl, rfl, rfl, rfl, trivial, ?_⟩, ?_⟩
              · intro a w1 hC  (h1 : a.tmps.getD 86 undef = _)
                refine Or.inl ⟨.bool true, ?_, rfl⟩
                go_simp
              refine ⟨⟨⟨_, _, _, _, _, _⟩, _, Is (.bool true), none, [(some 87, Is (.bool true)), (some 86, Is (.bool false))], [], rfl, rfl, rfl, rfl, rfl, trivial, ?_⟩, ?_⟩
              · intro a w1 hC  (h2 : a.tmps.getD 87 undef = _) (h1 : a.tmps.getD 86 undef = _)
                refine Or.inl ⟨.bool true, ?_, rfl⟩
                go_simp
              refine ⟨⟨⟨_, _, _, _, _, _⟩, _, Is ?vD4, (some (some 88, false)), [(some 88, Is (.bool true))], [(5, .pointer (some ⟨w.heap.size + 1, 0, none⟩))], rfl, rfl, rfl, rfl, rfl, ⟨⟨by kernel_rfl, rfl⟩, trivial⟩, ?_⟩, ?_⟩
              · intro a w1 hC e5 (h3 : a.tmps.getD 88 undef = _)
                refine Or.inr ⟨fun hh => ?_, ?_⟩
                · have := h3.symm.trans hh; cases this
                · rfl
              refine ⟨⟨⟨_, _, _, _, _, _⟩, _, Is ?vD5, (some (some 88, false)), [(some 89, Is ?vD4), (some 88, Is (.bool true)), (some 88, Is (.bool true))], [], rfl, rfl, rfl, rfl, rfl, trivial, ?_⟩, ?_⟩
              · intro a w1 hC  (h4 : a.tmps.getD 89 undef = _) (h3 : a.tmps.getD 88 undef = _) _
                refine Or.inr ⟨fun hh => ?_, ?_⟩
                · have := h3.symm.trans hh; cases this
                · rfl
              refine ⟨⟨⟨_, _, _, _, _, _⟩, _, Is ?vD6, (some (some 88, false)), [(some 90, Is ?vD5), (some 88, Is (.bool true))], [], rfl, rfl, rfl, rfl, rfl, trivial, ?_⟩, ?_⟩
              · intro a w1 hC  (h5 : a.tmps.getD 90 undef = _) (h3 : a.tmps.getD 88 undef = _)
                refine Or.inr ⟨fun hh => ?_, ?_⟩
                · have := h3.symm.trans hh; cases this
                · rfl
              refine ⟨⟨⟨_, _, _, _, _, _⟩, _, Is ?vD7, (some (some 88, false)), [(some 88, Is (.bool true))], [(11, .slice po pl pc)], rfl, rfl, rfl, rfl, rfl, ⟨⟨by kernel_rfl, rfl⟩, trivial⟩, ?_⟩, ?_⟩
              · intro a w1 hC e11 (h3 : a.tmps.getD 88 undef = _)
                refine Or.inr ⟨fun hh => ?_, ?_⟩
                · have := h3.symm.trans hh; cases this
                · rfl
              refine ⟨⟨⟨_, _, _, _, _, _⟩, _, Is ?vD8, (some (some 88, false)), [(some 88, Is (.bool true))], [(2, .slice ho m2 bc)], rfl, rfl, rfl, rfl, rfl, ⟨⟨by kernel_rfl, rfl⟩, trivial⟩, ?_⟩, ?_⟩
              · intro a w1 hC e2 (h3 : a.tmps.getD 88 undef = _)
                refine Or.inr ⟨fun hh => ?_, ?_⟩
                · have := h3.symm.trans hh; cases this
                · rfl
              refine ⟨⟨⟨_, _, _, _, _, _⟩, _, Is ?vD9, (some (some 88, false)), [(some 93, Is ?vD8), (some 88, Is (.bool true))], [], rfl, rfl, rfl, rfl, rfl, trivial, ?_⟩, ?_⟩
              · intro a w1 hC  (h8 : a.tmps.getD 93 undef = _) (h3 : a.tmps.getD 88 undef = _)
                refine Or.inr ⟨fun hh => ?_, ?_⟩
                · have := h3.symm.trans hh; cases this
                · rfl
              refine ⟨⟨⟨_, _, _, _, _, _⟩, _, Is ?vD10, (some (some 88, false)), [(some 92, Is ?vD7), (some 94, Is ?vD9), (some 88, Is (.bool true))], [], rfl, rfl, rfl, rfl, rfl, trivial, ?_⟩, ?_⟩
              · intro a w1 hC  (h7 : a.tmps.getD 92 undef = _) (h9 : a.tmps.getD 94 undef = _) (h3 : a.tmps.getD 88 undef = _)
                refine Or.inr ⟨fun hh => ?_, ?_⟩
                · have := h3.symm.trans hh; cases this
                · rfl
              refine ⟨⟨⟨_, _, _, _, _, _⟩, _, Is ?vD11, (some (some 88, false)), [(some 95, Is ?vD10), (some 88, Is (.bool true))], [], rfl, rfl, rfl, rfl, rfl, trivial, ?_⟩, ?_⟩
              · intro a w1 hC  (h10 : a.tmps.getD 95 undef = _) (h3 : a.tmps.getD 88 undef = _)
                refine Or.inr ⟨fun hh => ?_, ?_⟩
                · have := h3.symm.trans hh; cases this
                · rfl
              refine ⟨⟨⟨_, _, _, _, _, _⟩, _, Is ?vD12, (some (some 88, false)), [(some 91, Is ?vD6), (some 96, Is ?vD11), (some 88, Is (.bool true))], [], rfl, rfl, rfl, rfl, rfl, trivial, ?_⟩, ?_⟩
              · intro a w1 hC  (h6 : a.tmps.getD 91 undef = _) (h11 : a.tmps.getD 96 undef = _) (h3 : a.tmps.getD 88 undef = _)
                refine Or.inr ⟨fun hh => ?_, ?_⟩
                · have := h3.symm.trans hh; cases this
                · rfl
              refine ⟨⟨⟨_, _, _, _, _, _⟩, _, Is ?vD13, (some (some 88, false)), [(some 88, Is (.bool true))], [(4, .pointer (some ⟨w.heap.size, 0, none⟩))], rfl, rfl, rfl, rfl, rfl, ⟨⟨by kernel_rfl, rfl⟩, trivial⟩, ?_⟩, ?_⟩
              · intro a w1 hC e4 (h3 : a.tmps.getD 88 undef = _)
                refine Or.inr ⟨fun hh => ?_, ?_⟩
                · have := h3.symm.trans hh; cases this
                · rfl
              refine ⟨⟨⟨_, _, _, _, _, _⟩, _, Is ?vD14, (some (some 88, false)), [(some 88, Is (.bool true))], [(5, .pointer (some ⟨w.heap.size + 1, 0, none⟩))], rfl, rfl, rfl, rfl, rfl, ⟨⟨by kernel_rfl, rfl⟩, trivial⟩, ?_⟩, ?_⟩
              · intro a w1 hC e5 (h3 : a.tmps.getD 88 undef = _)
                refine Or.inr ⟨fun hh => ?_, ?_⟩
                · have := h3.symm.trans hh; cases this
                · rfl
              refine ⟨⟨⟨_, _, _, _, _, _⟩, _, Is ?vD15, (some (some 88, false)), [(some 98, Is ?vD13), (some 99, Is ?vD14), (some 90, Is ?vD5), (some 88, Is (.bool true))], [], rfl, rfl, rfl, rfl, rfl, trivial, ?_⟩, ?_⟩
              · intro a w1 hC  (h13 : a.tmps.getD 98 undef = _) (h14 : a.tmps.getD 99 undef = _) (h5 : a.tmps.getD 90 undef = _) (h3 : a.tmps.getD 88 undef = _)
                refine Or.inr ⟨fun hh => ?_, ?_⟩
                · have := h3.symm.trans hh; cases this
                · rfl
              refine ⟨⟨⟨_, _, _, _, _, _⟩, _, Is ?vD16, (some (some 88, false)), [(some 97, Is ?vD12), (some 100, Is ?vD15), (some 88, Is (.bool true))], [], rfl, rfl, rfl, rfl, rfl, trivial, ?_⟩, ?_⟩
              · intro a w1 hC  (h12 : a.tmps.getD 97 undef = _) (h15 : a.tmps.getD 100 undef = _) (h3 : a.tmps.getD 88 undef = _)
                refine Or.inr ⟨fun hh => ?_, ?_⟩
                · have := h3.symm.trans hh; cases this
                · rfl
              refine ⟨⟨⟨_, _, _, _, _, _⟩, _, Is (.bool true), none, [(some 88, Is (.bool true)), (some 101, Is ?vD16)], [], rfl, rfl, rfl, rfl, rfl, trivial, ?_⟩, ?_⟩
              · intro a w1 hC  (h3 : a.tmps.getD 88 undef = _) (h16 : a.tmps.getD 101 undef = _)
                refine Or.inl ⟨.bool true, ?_, rfl⟩
                go_simp
              refine ⟨⟨⟨_, _, _, _, _, _⟩, _, Is (.bool true), none, [(some 102, Is (.bool true)), (some 100, Is ?vD15), (some 85, Is (iv op' p' q' lo' ln' lc')), (some 86, Is (.bool false)), (some 87, Is (.bool true)), (some 88, Is (.bool true)), (some 89, Is ?vD4), (some 90, Is ?vD5), (some 91, Is ?vD6), (some 92, Is ?vD7), (some 93, Is ?vD8), (some 94, Is ?vD9), (some 95, Is ?vD10), (some 96, Is ?vD11), (some 97, Is ?vD12), (some 98, Is ?vD13), (some 99, Is ?vD14), (some 100, Is ?vD15), (some 101, Is ?vD16), (some 102, Is (.bool true))], [], rfl, rfl, rfl, rfl, rfl, trivial, ?_⟩, ?_⟩
              · intro a w1 hC  (h17 : a.tmps.getD 102 undef = _) (h15 : a.tmps.getD 100 undef = _) (h0 : a.tmps.getD 85 undef = _) (h1 : a.tmps.getD 86 undef = _) (h2 : a.tmps.getD 87 undef = _) (h3 : a.tmps.getD 88 undef = _) (h4 : a.tmps.getD 89 undef = _) (h5 : a.tmps.getD 90 undef = _) (h6 : a.tmps.getD 91 undef = _) (h7 : a.tmps.getD 92 undef = _) (h8 : a.tmps.getD 93 undef = _) (h9 : a.tmps.getD 94 undef = _) (h10 : a.tmps.getD 95 undef = _) (h11 : a.tmps.getD 96 undef = _) (h12 : a.tmps.getD 97 undef = _) (h13 : a.tmps.getD 98 undef = _) (h14 : a.tmps.getD 99 undef = _) _ (h16 : a.tmps.getD 101 undef = _) _
                refine Or.inl ⟨.bool true, ?_, rfl⟩
                go_simp
              exact trivial
            case hstD => exact ⟨Stays.is _, Stays.is _, Stays.is _, Stays.is _, Stays.is _, Stays.is _, Stays.is _, Stays.is _, Stays.is _, Stays.is _, Stays.is _, Stays.is _, Stays.is _, Stays.is _, Stays.is _, Stays.is _, Stays.is _, Stays.is _, Stays.is _, trivial⟩
            case hendD =>
              intro w1 hC
              rintro _ rfl
              rintro _ rfl
              rintro _ rfl
              rintro _ rfl
              rintro _ rfl
              rintro _ rfl
              rintro _ rfl
              rintro _ rfl
              rintro _ rfl
              rintro _ rfl
              rintro _ rfl
              rintro _ rfl
              rintro _ rfl
              rintro _ rfl
              rintro _ rfl
              rintro _ rfl
              rintro _ rfl
              rintro _ rfl
              rintro _ rfl
              simp only [Ends, Act.put, List.setIfInBounds_toArray, List.set_cons_succ, List.set_cons_zero]
              go_wp2_with fail
              go_ret
              exact ⟨rfl, Bl.step HB9.out hC⟩
          · obtain ⟨es', hes'⟩ : ∃ es', es' = encI op' p' q' l2' := ⟨_, rfl⟩
            have HES' := hid hes'
            obtain ⟨s0, hs0⟩ : ∃ s0, s0 = strOfNums es := ⟨_, rfl⟩
            obtain ⟨s1, hs1⟩ : ∃ s1, s1 = strOfNums es' := ⟨_, rfl⟩
            have hq : (s1.toList == s0.toList) = eb := by
              rw [← HE.out, hs0, hs1, HES.out, hes']
              exact same_text HT.out hp HT'.out hp'
            have HS0 := hid hs0
            have HS1 := hid hs1
            have HQ := hid hq
            clear hes' hs0 hs1 hq
            go_wp2_with fail
            refine wp_region_below (by kernel_rfl) [Is (iv op' p' q' lo' ln' lc'), Is (.bool true), Is (.bool false), Is (.bool false), Is (iv op' p' q' lo' ln' lc'), IsRd .u8 es', Is (.string s1), Is (.slice po pl pc), Is (.slice ho m2 bc), Is (.int .i64 m2), Is (.slice eo el ec), Is (.string s0), Is (.bool eb), Is (iv op p q lo ln lc), Is (iv op' p' q' lo' ln' lc'), Is (.bool eb), Is (.bool true), Is (.bool true), Is (.bool true)] [0, 1, 2, 3, 4, 5, 6, 7, 8, 9, 10, 11, 12, 13, 14, 15, 16, 17, 18] rfl (by kernel_rfl) rfl ?hopE ?hstE ?hendE
            case hopE =>
              refine ⟨⟨⟨_, _, _, _, _, _⟩, _, Is (iv op' p' q' lo' ln' lc'), none, [], [(5, .pointer (some ⟨w.heap.size + 1, 0, none⟩))], rfl, rfl, rfl, rfl, rfl, ⟨⟨by kernel_rfl, rfl⟩, trivial⟩, ?_⟩, ?_⟩
              · intro a w1 hC e5
                refine Or.inl ⟨iv op' p' q' lo' ln' lc', ?_, rfl⟩
                obtain ⟨hcw0, hcw1, hcw2, hcw3⟩ := HY9.out.below hC
                go_simp
              refine ⟨⟨⟨_, _, _, _, _, _⟩, _, Is (.bool true), none, [(some 85, Is (iv op' p' q' lo' ln' lc'))], [], rfl, rfl, rfl, rfl, rfl, trivial, ?_⟩, ?_⟩
              · intro a w1 hC  (h0 : a.tmps.getD 85 undef = _)
                refine Or.inr (Or.inl ⟨11, #[iv op' p' q' lo' ln' lc'], ?_, ?_⟩)
                · go_simp
                · refine (mayInstr_to op' p' q' lo' ln' lc' l2' true HT'.out w1 (HM9.out.below hC)).mono ?_
                  rintro e w2 ⟨rfl, hb⟩
                  exact ⟨_, rfl, rfl, hb⟩
              refine ⟨⟨⟨_, _, _, _, _, _⟩, _, Is (.bool false), none, [(some 86, Is (.bool true))], [], rfl, rfl, rfl, rfl, rfl, trivial, ?_⟩, ?_⟩
              · intro a w1 hC  (h1 : a.tmps.getD 86 undef = _)
                refine Or.inl ⟨.bool false, ?_, rfl⟩
                go_simp
              refine ⟨⟨⟨_, _, _, _, _, _⟩, _, Is (.bool false), none, [(some 87, Is (.bool false)), (some 86, Is (.bool true))], [], rfl, rfl, rfl, rfl, rfl, trivial, ?_⟩, ?_⟩
              · intro a w1 hC  (h2 : a.tmps.getD 87 undef = _) (h1 : a.tmps.getD 86 undef = _)
                refine Or.inl ⟨.bool false, ?_, rfl⟩
                go_simp
              refine ⟨⟨⟨_, _, _, _, _, _⟩, _, Is (iv op' p' q' lo' ln' lc'), (some (some 88, false)), [(some 88, Is (.bool false))], [(5, .pointer (some ⟨w.heap.size + 1, 0, none⟩))], rfl, rfl, rfl, rfl, rfl, ⟨⟨by kernel_rfl, rfl⟩, trivial⟩, ?_⟩, ?_⟩
              · intro a w1 hC e5 (h3 : a.tmps.getD 88 undef = _)
                refine Or.inl ⟨h3, ?_⟩
                refine Or.inl ⟨iv op' p' q' lo' ln' lc', ?_, rfl⟩
                obtain ⟨hcw0, hcw1, hcw2, hcw3⟩ := HY9.out.below hC
                go_simp
              refine ⟨⟨⟨_, _, _, _, _, _⟩, _, IsRd .u8 es', (some (some 88, false)), [(some 89, Is (iv op' p' q' lo' ln' lc')), (some 88, Is (.bool false)), (some 88, Is (.bool false))], [], rfl, rfl, rfl, rfl, rfl, trivial, ?_⟩, ?_⟩
              · intro a w1 hC  (h4 : a.tmps.getD 89 undef = _) (h3 : a.tmps.getD 88 undef = _) _
                refine Or.inl ⟨h3, ?_⟩
                refine Or.inr (Or.inl ⟨15, #[.slice none 0 0, iv op' p' q' lo' ln' lc'], ?_, ?_⟩)
                · go_simp
                · refine (put_to none 0 0 [] op' p' q' lo' ln' lc' l2' w1 HT'.out hp' (Rd.empty _ _) (by decide) (HM9.out.below hC)).mono ?_
                  rintro e w2 ⟨vv, rfl, hown, hbel⟩
                  rw [List.nil_append, ← HES'.out] at hown
                  obtain ⟨ao1, cap1, rfl, hrd⟩ := hown.rd
                  exact ⟨_, rfl, ⟨ao1, cap1, rfl, hrd⟩, hbel⟩
              refine ⟨⟨⟨_, _, _, _, _, _⟩, _, Is (.string s1), (some (some 88, false)), [(some 90, IsRd .u8 es'), (some 88, Is (.bool false))], [], rfl, rfl, rfl, rfl, rfl, trivial, ?_⟩, ?_⟩
              · intro a w1 hC  h5 (h3 : a.tmps.getD 88 undef = _)
                refine Or.inl ⟨h3, ?_⟩
                obtain ⟨ao1, cap1, e5, hrd⟩ := h5
                have e5 : a.tmps.getD 90 undef = _ := e5
                refine Or.inl ⟨.string s1, ?_, rfl⟩
                have hcv := conv_str (P := Try.prog) hrd 25 9 5 Try.underlying25 Try.underlying5 Try.underlying9
                rw [← HS1.out] at hcv
                go_simp
              refine ⟨⟨⟨_, _, _, _, _, _⟩, _, Is (.slice po pl pc), (some (some 88, false)), [(some 88, Is (.bool false))], [(11, .slice po pl pc)], rfl, rfl, rfl, rfl, rfl, ⟨⟨by kernel_rfl, rfl⟩, trivial⟩, ?_⟩, ?_⟩
              · intro a w1 hC e11 (h3 : a.tmps.getD 88 undef = _)
                refine Or.inl ⟨h3, ?_⟩
                refine Or.inl ⟨.slice po pl pc, ?_, rfl⟩
                go_simp
              refine ⟨⟨⟨_, _, _, _, _, _⟩, _, Is (.slice ho m2 bc), (some (some 88, false)), [(some 88, Is (.bool false))], [(2, .slice ho m2 bc)], rfl, rfl, rfl, rfl, rfl, ⟨⟨by kernel_rfl, rfl⟩, trivial⟩, ?_⟩, ?_⟩
              · intro a w1 hC e2 (h3 : a.tmps.getD 88 undef = _)
                refine Or.inl ⟨h3, ?_⟩
                refine Or.inl ⟨.slice ho m2 bc, ?_, rfl⟩
                go_simp
              refine ⟨⟨⟨_, _, _, _, _, _⟩, _, Is (.int .i64 m2), (some (some 88, false)), [(some 93, Is (.slice ho m2 bc)), (some 88, Is (.bool false))], [], rfl, rfl, rfl, rfl, rfl, trivial, ?_⟩, ?_⟩
              · intro a w1 hC  (h8 : a.tmps.getD 93 undef = _) (h3 : a.tmps.getD 88 undef = _)
                refine Or.inl ⟨h3, ?_⟩
                refine Or.inl ⟨.int .i64 m2, ?_, rfl⟩
                go_simp
              refine ⟨⟨⟨_, _, _, _, _, _⟩, _, Is (.slice eo el ec), (some (some 88, false)), [(some 92, Is (.slice po pl pc)), (some 94, Is (.int .i64 m2)), (some 88, Is (.bool false))], [], rfl, rfl, rfl, rfl, rfl, trivial, ?_⟩, ?_⟩
              · intro a w1 hC  (h7 : a.tmps.getD 92 undef = _) (h9 : a.tmps.getD 94 undef = _) (h3 : a.tmps.getD 88 undef = _)
                refine Or.inl ⟨h3, ?_⟩
                refine Or.inl ⟨.slice eo el ec, ?_, rfl⟩
                have hcw := HCUT.out
                go_simp
              refine ⟨⟨⟨_, _, _, _, _, _⟩, _, Is (.string s0), (some (some 88, false)), [(some 95, Is (.slice eo el ec)), (some 88, Is (.bool false))], [], rfl, rfl, rfl, rfl, rfl, trivial, ?_⟩, ?_⟩
              · intro a w1 hC  (h10 : a.tmps.getD 95 undef = _) (h3 : a.tmps.getD 88 undef = _)
                refine Or.inl ⟨h3, ?_⟩
                refine Or.inl ⟨.string s0, ?_, rfl⟩
                have hcv := conv_str (P := Try.prog) (HC9.out.below hC) 25 9 5 Try.underlying25 Try.underlying5 Try.underlying9
                rw [← HS0.out] at hcv
                go_simp
              refine ⟨⟨⟨_, _, _, _, _, _⟩, _, Is (.bool eb), (some (some 88, false)), [(some 91, Is (.string s1)), (some 96, Is (.string s0)), (some 88, Is (.bool false))], [], rfl, rfl, rfl, rfl, rfl, trivial, ?_⟩, ?_⟩
              · intro a w1 hC  (h6 : a.tmps.getD 91 undef = _) (h11 : a.tmps.getD 96 undef = _) (h3 : a.tmps.getD 88 undef = _)
                refine Or.inl ⟨h3, ?_⟩
                refine Or.inl ⟨.bool eb, ?_, rfl⟩
                have hcw := HQ.out
                go_simp
              refine ⟨⟨⟨_, _, _, _, _, _⟩, _, Is (iv op p q lo ln lc), (some (some 88, false)), [(some 88, Is (.bool false))], [(4, .pointer (some ⟨w.heap.size, 0, none⟩))], rfl, rfl, rfl, rfl, rfl, ⟨⟨by kernel_rfl, rfl⟩, trivial⟩, ?_⟩, ?_⟩
              · intro a w1 hC e4 (h3 : a.tmps.getD 88 undef = _)
                refine Or.inl ⟨h3, ?_⟩
                refine Or.inl ⟨iv op p q lo ln lc, ?_, rfl⟩
                obtain ⟨hcw0, hcw1, hcw2, hcw3⟩ := HX9.out.below hC
                go_simp
              refine ⟨⟨⟨_, _, _, _, _, _⟩, _, Is (iv op' p' q' lo' ln' lc'), (some (some 88, false)), [(some 88, Is (.bool false))], [(5, .pointer (some ⟨w.heap.size + 1, 0, none⟩))], rfl, rfl, rfl, rfl, rfl, ⟨⟨by kernel_rfl, rfl⟩, trivial⟩, ?_⟩, ?_⟩
              · intro a w1 hC e5 (h3 : a.tmps.getD 88 undef = _)
                refine Or.inl ⟨h3, ?_⟩
                refine Or.inl ⟨iv op' p' q' lo' ln' lc', ?_, rfl⟩
                obtain ⟨hcw0, hcw1, hcw2, hcw3⟩ := HY9.out.below hC
                go_simp
              refine ⟨⟨⟨_, _, _, _, _, _⟩, _, Is (.bool eb), (some (some 88, false)), [(some 98, Is (iv op p q lo ln lc)), (some 99, Is (iv op' p' q' lo' ln' lc')), (some 90, IsRd .u8 es'), (some 88, Is (.bool false))], [], rfl, rfl, rfl, rfl, rfl, trivial, ?_⟩, ?_⟩
              · intro a w1 hC  (h13 : a.tmps.getD 98 undef = _) (h14 : a.tmps.getD 99 undef = _) h5 (h3 : a.tmps.getD 88 undef = _)
                refine Or.inl ⟨h3, ?_⟩
                refine Or.inr (Or.inl ⟨14, #[iv op p q lo ln lc, iv op' p' q' lo' ln' lc'], ?_, ?_⟩)
                · go_simp
                · refine (eqInstr_to op p q lo ln lc l2 op' p' q' lo' ln' lc' l2' eb HE.out w1 (HL9.out.below hC) (HM9.out.below hC)).mono ?_
                  rintro e w2 ⟨rfl, hb⟩
                  exact ⟨_, rfl, rfl, hb⟩
              refine ⟨⟨⟨_, _, _, _, _, _⟩, _, Is (.bool true), (some (some 88, false)), [(some 97, Is (.bool eb)), (some 100, Is (.bool eb)), (some 88, Is (.bool false))], [], rfl, rfl, rfl, rfl, rfl, trivial, ?_⟩, ?_⟩
              · intro a w1 hC  (h12 : a.tmps.getD 97 undef = _) (h15 : a.tmps.getD 100 undef = _) (h3 : a.tmps.getD 88 undef = _)
                refine Or.inl ⟨h3, ?_⟩
                refine Or.inl ⟨.bool true, ?_, rfl⟩
                cases eb <;> go_simp
              refine ⟨⟨⟨_, _, _, _, _, _⟩, _, Is (.bool true), none, [(some 88, Is (.bool false)), (some 101, Is (.bool true))], [], rfl, rfl, rfl, rfl, rfl, trivial, ?_⟩, ?_⟩
              · intro a w1 hC  (h3 : a.tmps.getD 88 undef = _) (h16 : a.tmps.getD 101 undef = _)
                refine Or.inl ⟨.bool true, ?_, rfl⟩
                go_simp
              refine ⟨⟨⟨_, _, _, _, _, _⟩, _, Is (.bool true), none, [(some 102, Is (.bool true)), (some 100, Is (.bool eb)), (some 85, Is (iv op' p' q' lo' ln' lc')), (some 86, Is (.bool true)), (some 87, Is (.bool false)), (some 88, Is (.bool false)), (some 89, Is (iv op' p' q' lo' ln' lc')), (some 90, IsRd .u8 es'), (some 91, Is (.string s1)), (some 92, Is (.slice po pl pc)), (some 93, Is (.slice ho m2 bc)), (some 94, Is (.int .i64 m2)), (some 95, Is (.slice eo el ec)), (some 96, Is (.string s0)), (some 97, Is (.bool eb)), (some 98, Is (iv op p q lo ln lc)), (some 99, Is (iv op' p' q' lo' ln' lc')), (some 100, Is (.bool eb)), (some 101, Is (.bool true)), (some 102, Is (.bool true))], [], rfl, rfl, rfl, rfl, rfl, trivial, ?_⟩, ?_⟩
              · intro a w1 hC  (h17 : a.tmps.getD 102 undef = _) (h15 : a.tmps.getD 100 undef = _) (h0 : a.tmps.getD 85 undef = _) (h1 : a.tmps.getD 86 undef = _) (h2 : a.tmps.getD 87 undef = _) (h3 : a.tmps.getD 88 undef = _) (h4 : a.tmps.getD 89 undef = _) h5 (h6 : a.tmps.getD 91 undef = _) (h7 : a.tmps.getD 92 undef = _) (h8 : a.tmps.getD 93 undef = _) (h9 : a.tmps.getD 94 undef = _) (h10 : a.tmps.getD 95 undef = _) (h11 : a.tmps.getD 96 undef = _) (h12 : a.tmps.getD 97 undef = _) (h13 : a.tmps.getD 98 undef = _) (h14 : a.tmps.getD 99 undef = _) _ (h16 : a.tmps.getD 101 undef = _) _
                refine Or.inl ⟨.bool true, ?_, rfl⟩
                go_simp
              exact trivial
            case hstE => exact ⟨Stays.is _, Stays.is _, Stays.is _, Stays.is _, Stays.is _, Stays.rd _ _, Stays.is _, Stays.is _, Stays.is _, Stays.is _, Stays.is _, Stays.is _, Stays.is _, Stays.is _, Stays.is _, Stays.is _, Stays.is _, Stays.is _, Stays.is _, trivial⟩
            case hendE =>
              intro w1 hC
              rintro _ rfl
              rintro _ rfl
              rintro _ rfl
              rintro _ rfl
              rintro _ rfl
              intro x5 h5
              rintro _ rfl
              rintro _ rfl
              rintro _ rfl
              rintro _ rfl
              rintro _ rfl
              rintro _ rfl
              rintro _ rfl
              rintro _ rfl
              rintro _ rfl
              rintro _ rfl
              rintro _ rfl
              rintro _ rfl
              rintro _ rfl
              simp only [Ends, Act.put, List.setIfInBounds_toArray, List.set_cons_succ, List.set_cons_zero]
              go_wp2_with fail
              go_ret
              exact ⟨rfl, Bl.step HB9.out hC⟩
end Go.Proofs.Ytapgiadenkflhaa
