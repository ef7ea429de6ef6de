/- Instructions to bytes: Put, and the reference's. -/
import Derived.Test.YtfambbpggodlkaaInsOps
namespace Go.Proofs.Ytfambbpggodlkaa
open Go.RowKit

theorem exec_append {P : Program} {w w' : World} {o : Oper} {a : Act} {s x : Operand} {t : TypeId} {v u r : Value} (ho : o.op = .call { callee := .builtin .append, args := #[s, x], argTypes := #[t, t] })
    (hs : a.eval s = v) (hx : a.eval x = u) (hr : (Builtin.append_ #[t, t] o.type #[v, u]).run P w = .ok r w') : (execOp a.eval o).run P w = .ok (.value r) w' := by
  unfold execOp
  simp only [ho, resolve, invoke, builtin, Sem.run_bind, Sem.run_pure, Result.andThen_ok, List.map_toArray, List.map_cons, List.map_nil, hs, hx, hr]

theorem Rd.built_at (w : World) (k : IntKind) (E : TypeId) (x : Int) (h : (Lit.int k x).wf = true) {p : Nat} (hp : p = w.heap.size) : Rd k (w.alloc (.cells #[.int k x] E)) (some ⟨p, 0, none⟩) 1 1 [x] := by
  subst hp
  exact Rd.built w k E x h
/-- The four cells of a boxed instruction. -/
structure Box4 (w : World) (p : Nat) (op x y : Int) (ao : Option Addr) (n cap : Nat) : Prop where
  c0 : w.cell? ⟨p, 0, none⟩ = some (.int .i64 op)
  c1 : w.cell? ⟨p, 1, none⟩ = some (.int .i64 x)
  c2 : w.cell? ⟨p, 2, none⟩ = some (.int .i64 y)
  c3 : w.cell? ⟨p, 3, none⟩ = some (.slice ao n cap)
theorem Box4.new (w : World) (op x y : Int) (ao : Option Addr) (n cap : Nat) (T : TypeId) : Box4 (w.alloc (.cells #[.int .i64 op, .int .i64 x, .int .i64 y, .slice ao n cap] T)) w.heap.size op x y ao n cap := by
  constructor <;> simp [World.cell?_alloc_at]
theorem Box4.below {w w' : World} {p : Nat} {op x y : Int} {ao : Option Addr} {n cap : Nat} (h : Box4 w p op x y ao n cap) (hb : Below w.heap.size w w') : Box4 w' p op x y ao n cap := by
  have hlt : p < w.heap.size := World.block_lt_of_cell? w _ h.c0
  exact ⟨(hb.cell (p := ⟨p, 0, none⟩) hlt).trans h.c0, (hb.cell (p := ⟨p, 1, none⟩) hlt).trans h.c1, (hb.cell (p := ⟨p, 2, none⟩) hlt).trans h.c2, (hb.cell (p := ⟨p, 3, none⟩) hlt).trans h.c3⟩
theorem Box4.keep {w w' : World} {p B : Nat} {op x y : Int} {ao : Option Addr} {n cap : Nat} (h : Box4 w p op x y ao n cap) (hb : Below B w w') (hp : p < B) : Box4 w' p op x y ao n cap :=
  ⟨(hb.cell (p := ⟨p, 0, none⟩) hp).trans h.c0, (hb.cell (p := ⟨p, 1, none⟩) hp).trans h.c1, (hb.cell (p := ⟨p, 2, none⟩) hp).trans h.c2, (hb.cell (p := ⟨p, 3, none⟩) hp).trans h.c3⟩
theorem Box4.lt {w : World} {p : Nat} {op x y : Int} {ao : Option Addr} {n cap : Nat} (h : Box4 w p op x y ao n cap) : p < w.heap.size := World.block_lt_of_cell? w _ h.c0

theorem tailI_len (s x y : Int) (l : List Int) (hl : l.length ≤ 1000) : (tailI s x y l).length ≤ 20000 := by
  have h1 := encU_len 9 x
  have h2 := encU_len 9 y
  have h3 := encU_len 9 (l.length : Int)
  have h4 := encS_len 9 x
  have h5 := encL_len l
  unfold tailI
  (repeat' split) <;> simp <;> omega
theorem may_op {op x y : Int} {l : List Int} (h : mayI op x y l = true) : 0 ≤ op ∧ op ≤ 255 := by
  refine sh_byte fun h0 => ?_
  have := (may_parts h).1
  rw [h0] at this
  simp [mayAS] at this
theorem may_len {op x y : Int} {l : List Int} (h : mayI op x y l = true) : l.length ≤ 50 := by
  have := (may_parts h).2.2
  unfold mayLS at this
  split at this <;> simp at this
  · exact this.1
  · simp [this]

set_option maxHeartbeats 1000000 in
theorem put_to (bo : Option Addr) (m bc : Nat) (bs : List Int) (op x y : Int) (ao : Option Addr) (n cap : Nat) (l : List Int) (w : World) (h : mayI op x y l = true) (hx : -9223372036854775808 ≤ x ∧ x ≤ 9223372036854775807) (hbs : Rd .u8 w bo m bc bs) (hm : m ≤ 1000000) (hr : Rd .i64 w ao n cap l) :
    Calls Try.prog 29 #[.slice bo m bc, iv op x y ao n cap] w fun e w' => ∃ v, e = .returned v ∧ Own 5 .u8 w.heap.size w' v (bs ++ encI op x y l) ∧ Below w.heap.size w w' := by
  have Hm := hid h
  have hop := may_op h
  have hll := tailI_len (sh op) x y l (Nat.le_trans (may_len h) (by decide))
  clear h
  go_enter Try.func29, Try.ntmps29
  go_wp2_with fail
  refine (may_to _ _ _ _ _ _ l true Hm.out _ (hr.below (Bl.alloc (Bl.refl w) _))).mono ?_
  rintro e w0 ⟨rfl, hb⟩
  have hbb := Bl.step (Bl.alloc (Bl.refl w) _) hb
  have B4 := hid ((Box4.new w op x y ao n cap 39).below hb)
  have Hr := hid (hr.below hbb)
  have Hbs := hid (hbs.below hbb)
  clear hb hr hbs
  go_wp2_with fail
  refine wp_region_below_tail 7 (by kernel_rfl) [Is (.slice bo m bc), Is ?vA1, Is (.int .i64 op), Is (.int .u8 op), IsRd .u8 [op], Is (iv op x y ao n cap), IsRd .u8 (tailI (sh op) x y l)] [0, 1, 2, 3, 4, 5, 6] rfl (by kernel_rfl) rfl (by kernel_rfl) ?hopA ?hstA ?hendA
  case hopA =>
    refine ⟨⟨⟨_, _, _, _, _, _⟩, _, Is (.slice bo m bc), none, [], [(0, .slice bo m bc)], rfl, rfl, rfl, rfl, rfl, ⟨⟨by kernel_rfl, rfl⟩, trivial⟩, ?_⟩, ?_⟩
    · intro a w1 hC e0
      refine Or.inl ⟨.slice bo m bc, ?_, rfl⟩
      go_simp
    refine ⟨⟨⟨_, _, _, _, _, _⟩, _, Is ?vA1, none, [], [(3, .pointer (some ⟨w.heap.size, 0, none⟩))], rfl, rfl, rfl, rfl, rfl, ⟨⟨by kernel_rfl, rfl⟩, trivial⟩, ?_⟩, ?_⟩
    · intro a w1 hC e3
      refine Or.inl ⟨_, ?_, rfl⟩
      go_simp
      first | (go_bits; rfl) | rfl | (rw [if_pos (by omega)])
    refine ⟨⟨⟨_, _, _, _, _, _⟩, _, Is (.int .i64 op), none, [(some 12, Is ?vA1)], [], rfl, rfl, rfl, rfl, rfl, trivial, ?_⟩, ?_⟩
    · intro a w1 hC  (h1 : a.tmps.getD 12 undef = _)
      refine Or.inl ⟨.int .i64 op, ?_, rfl⟩
      have b4 := B4.out.below hC
      have hcw0 := b4.c0
      clear b4
      go_simp
    refine ⟨⟨⟨_, _, _, _, _, _⟩, _, Is (.int .u8 op), none, [(some 13, Is (.int .i64 op))], [], rfl, rfl, rfl, rfl, rfl, trivial, ?_⟩, ?_⟩
    · intro a w1 hC  (h2 : a.tmps.getD 13 undef = _)
      refine Or.inl ⟨.int .u8 op, ?_, rfl⟩
      go_simp
      rw [IntKind.wrap_u8]
      omega
    refine ⟨⟨⟨_, _, _, _, _, _⟩, _, IsRd .u8 [op], none, [(some 14, Is (.int .u8 op))], [], rfl, rfl, rfl, rfl, rfl, trivial, ?_⟩, ?_⟩
    · intro a w1 hC  (h3 : a.tmps.getD 14 undef = _)
      refine Or.inr (Or.inr ⟨.slice (some ⟨w1.heap.size, 0, none⟩) 1 1, w1.alloc (.cells #[.int .u8 op] 5), ?_, ⟨_, _, rfl, Rd.built _ _ _ _ (WalkArith.wf_u8 hop)⟩, Bl.alloc (Bl.refl _) _⟩)
      rw [Array.getD_eq_getD_getElem?] at h3
      go_simp
    refine ⟨⟨⟨_, _, _, _, _, _⟩, _, Is (iv op x y ao n cap), none, [], [(3, .pointer (some ⟨w.heap.size, 0, none⟩))], rfl, rfl, rfl, rfl, rfl, ⟨⟨by kernel_rfl, rfl⟩, trivial⟩, ?_⟩, ?_⟩
    · intro a w1 hC e3
      refine Or.inl ⟨iv op x y ao n cap, ?_, rfl⟩
      have b4 := B4.out.below hC
      have hcw0 := b4.c0
      have hcw1 := b4.c1
      have hcw2 := b4.c2
      have hcw3 := b4.c3
      clear b4
      go_simp
    refine ⟨⟨⟨_, _, _, _, _, _⟩, _, IsRd .u8 (tailI (sh op) x y l), none, [(some 16, Is (iv op x y ao n cap))], [], rfl, rfl, rfl, rfl, rfl, trivial, ?_⟩, ?_⟩
    · intro a w1 hC  (h5 : a.tmps.getD 16 undef = _)
      refine Or.inr (Or.inl ⟨41, #[iv op x y ao n cap], ?_, ?_⟩)
      · go_simp
      · refine (operands_to op x y ao n cap l w1 Hm.out hx (Hr.out.below hC)).mono ?_
        rintro e w2 ⟨vv, rfl, hown, hbel⟩
        obtain ⟨ao1, cap1, rfl, hrd⟩ := hown.rd
        exact ⟨_, rfl, ⟨ao1, cap1, rfl, hrd⟩, hbel⟩
    exact trivial
  case hstA => exact ⟨Stays.is _, Stays.is _, Stays.is _, Stays.is _, Stays.rd _ _, Stays.is _, Stays.rd _ _, trivial⟩
  case hendA =>
    intro w1 hC
    rintro _ rfl
    rintro _ rfl
    rintro _ rfl
    rintro _ rfl
    intro x4 h4
    rintro _ rfl
    intro x6 h6
    obtain ⟨ao1, cap1, rfl, hr1⟩ := h4
    obtain ⟨ao2, cap2, rfl, hr2⟩ := h6
    simp only [Ends, Act.put, List.setIfInBounds_toArray, List.set_cons_succ, List.set_cons_zero, List.drop_succ_cons, List.drop_zero]
    have hr0 := Hbs.out.below hC
    obtain ⟨ps, hps⟩ : ∃ ps : List Piece, ps = [⟨bo, m, bc, bs⟩, ⟨ao1, [op].length, cap1, [op]⟩, ⟨ao2, (tailI (sh op) x y l).length, cap2, tailI (sh op) x y l⟩] := ⟨_, rfl⟩
    have hpl : ps.length = 3 := by rw [hps]; rfl
    have hle : lens ps ≤ 1099511627776 := by rw [hps]; simp [lens]; omega
    have hct : cats ps = bs ++ encI op x y l := by rw [hps]; simp [cats, encI]
    have hp : Pieces (w1.alloc (.cells #[.slice bo m bc, .slice ao1 [op].length cap1, .slice ao2 (tailI (sh op) x y l).length cap2] 41)) w1.heap.size 0 ps := by
      rw [hps]
      constructor
      · intro k hk
        have : k = 0 ∨ k = 1 ∨ k = 2 := by simp at hk; omega
        rcases this with rfl | rfl | rfl <;> simp [World.cell?_alloc_at, Piece.v, List.getD]
      · intro k hk
        have : k = 0 ∨ k = 1 ∨ k = 2 := by simp at hk; omega
        rcases this with rfl | rfl | rfl
        · exact hr0.below (Bl.alloc (Bl.refl _) _)
        · exact hr1.below (Bl.alloc (Bl.refl _) _)
        · exact hr2.below (Bl.alloc (Bl.refl _) _)
    have Hpl := hid hpl
    have Hct := hid hct
    clear hps hpl hct hr0 hr1 hr2
    go_wp2_with fail
    refine (concat_to w1.heap.size 0 ps 3 _ Hpl.out (by omega) hp hle).mono ?_
    rintro e w2 ⟨v, rfl, hv, hb2⟩
    have hbz := Bl.step hbb (Bl.step hC (Bl.alloc (Bl.refl w1) (.cells #[.slice bo m bc, .slice ao1 [op].length cap1, .slice ao2 (tailI (sh op) x y l).length cap2] 41)))
    have hv2 := hv.lift hbz.size
    go_wp2_with fail
    go_ret
    refine ⟨_, rfl, ?_, Bl.step hbz hb2⟩
    rw [Hct.out] at hv2
    exact hv2

set_option maxHeartbeats 1000000 in
theorem refPut_1 (op x y : Int) (ao : Option Addr) (n cap : Nat) (w : World) (hs : sh op = 1) :
    Calls Try.prog 30 #[iv op x y ao n cap] w fun e w' => ∃ v, e = .returned v ∧ Own 5 .u8 w.heap.size w' v ([op]) ∧ Below w.heap.size w w' := by
  have Hs := hid hs
  have hop := sh_byte (op := op) (by rw [hs]; decide)
  clear hs
  have hwo : IntKind.u8.wrap op = op := by rw [IntKind.wrap_u8]; omega
  have Hwo := hid hwo
  clear hwo
  obtain ⟨w0, hw0⟩ : ∃ w0, w0 = (w.alloc (.cells #[.int .i64 op, .int .i64 x, .int .i64 y, .slice ao n cap] 39)).alloc (.cells #[.int .u8 op] 5) := ⟨_, rfl⟩
  have hbb : Below w.heap.size w w0 := by rw [hw0]; exact Bl.alloc (Bl.alloc (Bl.refl w) _) _
  have B4 : Hid (Box4 w0 w.heap.size op x y ao n cap) := by rw [hw0]; exact (Box4.new w op x y ao n cap 39).below (Bl.alloc (Bl.refl _) _)
  have hb0 : Own 5 .u8 w.heap.size w0 (.slice (some ⟨w.heap.size + 1, 0, none⟩) 1 1) [op] := by
    rw [hw0]
    have := own_built (w.alloc (.cells #[.int .i64 op, .int .i64 x, .int .i64 y, .slice ao n cap] 39)) .u8 5 [op] (by unfold maxLen; simp) (fun z hz => by simp at hz; subst hz; exact WalkArith.wf_u8 hop)
    have h2 := this.lift (base' := w.heap.size) (by simp)
    simpa using h2
  have HB := hid hb0
  have HW := hid hw0
  have hsz := hbb.size
  clear hw0 hb0
  go_enter Try.func30, Try.ntmps30
  go_wp2_with fail
  try rw [Hwo.out]
  rw [← HW.out]
  refine (form_to _ _ Hs.out _).mono ?_
  rintro e w1 ⟨rfl, rfl⟩
  obtain ⟨hc0, hc1, hc2, hc3⟩ := B4.out
  go_wp2_with fail
  go_ret
  exact ⟨_, rfl, HB.out, hbb⟩

set_option maxHeartbeats 1000000 in
theorem refPut_7 (op x y : Int) (ao : Option Addr) (n cap : Nat) (w : World) (hs : sh op = 7) :
    Calls Try.prog 30 #[iv op x y ao n cap] w fun e w' => ∃ v, e = .returned v ∧ Own 5 .u8 w.heap.size w' v (op :: [0]) ∧ Below w.heap.size w w' := by
  have Hs := hid hs
  have hop := sh_byte (op := op) (by rw [hs]; decide)
  clear hs
  have hwo : IntKind.u8.wrap op = op := by rw [IntKind.wrap_u8]; omega
  have Hwo := hid hwo
  clear hwo
  obtain ⟨w0, hw0⟩ : ∃ w0, w0 = (w.alloc (.cells #[.int .i64 op, .int .i64 x, .int .i64 y, .slice ao n cap] 39)).alloc (.cells #[.int .u8 op] 5) := ⟨_, rfl⟩
  have hbb : Below w.heap.size w w0 := by rw [hw0]; exact Bl.alloc (Bl.alloc (Bl.refl w) _) _
  have B4 : Hid (Box4 w0 w.heap.size op x y ao n cap) := by rw [hw0]; exact (Box4.new w op x y ao n cap 39).below (Bl.alloc (Bl.refl _) _)
  have hb0 : Own 5 .u8 w.heap.size w0 (.slice (some ⟨w.heap.size + 1, 0, none⟩) 1 1) [op] := by
    rw [hw0]
    have := own_built (w.alloc (.cells #[.int .i64 op, .int .i64 x, .int .i64 y, .slice ao n cap] 39)) .u8 5 [op] (by unfold maxLen; simp) (fun z hz => by simp at hz; subst hz; exact WalkArith.wf_u8 hop)
    have h2 := this.lift (base' := w.heap.size) (by simp)
    simpa using h2
  have HB := hid hb0
  have HW := hid hw0
  have hsz := hbb.size
  clear hw0 hb0
  go_enter Try.func30, Try.ntmps30
  go_wp2_with fail
  try rw [Hwo.out]
  rw [← HW.out]
  refine (form_to _ _ Hs.out _).mono ?_
  rintro e w1 ⟨rfl, rfl⟩
  obtain ⟨hc0, hc1, hc2, hc3⟩ := B4.out
  go_wp2_with (at_builtin; refine wpList_append_rd rfl (.tmp 86) (.tmp 87) 41 rfl 5 .u8 w.heap.size 1 Try.underlying41 infoU8 _ _ rfl (HB.out.alloc _) _ 1 _ [0] rfl (Rd.built _ _ _ _ (by decide)) (by simp <;> omega) (by simp <;> omega) (by simp <;> omega) ?_; intro v' w2 h3 h4 _)
  go_ret
  exact ⟨_, rfl, h3, (Bl.alloc hbb _).trans h4⟩

set_option maxHeartbeats 1000000 in
theorem refPut_3 (op x y : Int) (ao : Option Addr) (n cap : Nat) (w : World) (hs : sh op = 3) (hx : 0 ≤ x ∧ x ≤ 1000) :
    Calls Try.prog 30 #[iv op x y ao n cap] w fun e w' => ∃ v, e = .returned v ∧ Own 5 .u8 w.heap.size w' v (op :: encU 9 x) ∧ Below w.heap.size w w' := by
  have Hs := hid hs
  have hop := sh_byte (op := op) (by rw [hs]; decide)
  clear hs
  have hwo : IntKind.u8.wrap op = op := by rw [IntKind.wrap_u8]; omega
  have Hwo := hid hwo
  clear hwo
  obtain ⟨w0, hw0⟩ : ∃ w0, w0 = (w.alloc (.cells #[.int .i64 op, .int .i64 x, .int .i64 y, .slice ao n cap] 39)).alloc (.cells #[.int .u8 op] 5) := ⟨_, rfl⟩
  have hbb : Below w.heap.size w w0 := by rw [hw0]; exact Bl.alloc (Bl.alloc (Bl.refl w) _) _
  have B4 : Hid (Box4 w0 w.heap.size op x y ao n cap) := by rw [hw0]; exact (Box4.new w op x y ao n cap 39).below (Bl.alloc (Bl.refl _) _)
  have hb0 : Own 5 .u8 w.heap.size w0 (.slice (some ⟨w.heap.size + 1, 0, none⟩) 1 1) [op] := by
    rw [hw0]
    have := own_built (w.alloc (.cells #[.int .i64 op, .int .i64 x, .int .i64 y, .slice ao n cap] 39)) .u8 5 [op] (by unfold maxLen; simp) (fun z hz => by simp at hz; subst hz; exact WalkArith.wf_u8 hop)
    have h2 := this.lift (base' := w.heap.size) (by simp)
    simpa using h2
  have HB := hid hb0
  have HW := hid hw0
  have hsz := hbb.size
  clear hw0 hb0
  have hxa := encU_len 9 x
  go_enter Try.func30, Try.ntmps30
  go_wp2_with fail
  try rw [Hwo.out]
  rw [← HW.out]
  refine (form_to _ _ Hs.out _).mono ?_
  rintro e w1 ⟨rfl, rfl⟩
  obtain ⟨hc0, hc1, hc2, hc3⟩ := B4.out
  go_wp2_with fail
  refine (refU_any x _ (by omega) (by omega)).mono ?_
  rintro e w3 ⟨v, rfl, hv, hb2⟩
  obtain ⟨ao1, cap1, rfl, hrd⟩ := hv.rd
  have hown2 := HB.out.below hb2 (Nat.le_refl _)
  have hsz2 := hb2.size
  clear hv
  go_wp2_with (at_builtin; refine wpList_append_rd rfl (.tmp 24) (.tmp 28) 41 rfl 5 .u8 w.heap.size 1 Try.underlying41 infoU8 _ _ rfl hown2 ao1 _ _ _ rfl hrd (by simp <;> omega) (by simp <;> omega) (by omega) ?_; intro v' w2 h3 h4 _)
  go_ret
  exact ⟨_, rfl, h3, (Bl.step hbb hb2).trans h4⟩

set_option maxHeartbeats 1000000 in
theorem refPut_89 (op x y : Int) (ao : Option Addr) (n cap : Nat) (w : World) (s : Int) (hs : sh op = s) (h89 : s = 8 ∨ s = 9) (hx : -9223372036854775808 ≤ x ∧ x ≤ 9223372036854775807) :
    Calls Try.prog 30 #[iv op x y ao n cap] w fun e w' => ∃ v, e = .returned v ∧ Own 5 .u8 w.heap.size w' v (op :: encS 9 x) ∧ Below w.heap.size w w' := by
  have Hs := hid hs
  have hop := sh_byte (op := op) (by rw [hs]; omega)
  clear hs
  have hwo : IntKind.u8.wrap op = op := by rw [IntKind.wrap_u8]; omega
  have Hwo := hid hwo
  clear hwo
  obtain ⟨w0, hw0⟩ : ∃ w0, w0 = (w.alloc (.cells #[.int .i64 op, .int .i64 x, .int .i64 y, .slice ao n cap] 39)).alloc (.cells #[.int .u8 op] 5) := ⟨_, rfl⟩
  have hbb : Below w.heap.size w w0 := by rw [hw0]; exact Bl.alloc (Bl.alloc (Bl.refl w) _) _
  have B4 : Hid (Box4 w0 w.heap.size op x y ao n cap) := by rw [hw0]; exact (Box4.new w op x y ao n cap 39).below (Bl.alloc (Bl.refl _) _)
  have hb0 : Own 5 .u8 w.heap.size w0 (.slice (some ⟨w.heap.size + 1, 0, none⟩) 1 1) [op] := by
    rw [hw0]
    have := own_built (w.alloc (.cells #[.int .i64 op, .int .i64 x, .int .i64 y, .slice ao n cap] 39)) .u8 5 [op] (by unfold maxLen; simp) (fun z hz => by simp at hz; subst hz; exact WalkArith.wf_u8 hop)
    have h2 := this.lift (base' := w.heap.size) (by simp)
    simpa using h2
  have HB := hid hb0
  have HW := hid hw0
  have hsz := hbb.size
  clear hw0 hb0
  have hxa := encS_len 9 x
  go_enter Try.func30, Try.ntmps30
  go_wp2_with fail
  try rw [Hwo.out]
  rw [← HW.out]
  refine (form_to _ _ Hs.out _).mono ?_
  rintro e w1 ⟨rfl, rfl⟩
  obtain ⟨hc0, hc1, hc2, hc3⟩ := B4.out
  rcases h89 with rfl | rfl
  all_goals
    go_wp2_with fail
    refine (refS_any x _ (by omega) (by omega)).mono ?_
    rintro e w3 ⟨v, rfl, hv, hb2⟩
    obtain ⟨ao1, cap1, rfl, hrd⟩ := hv.rd
    have hown2 := HB.out.below hb2 (Nat.le_refl _)
    have hsz2 := hb2.size
    clear hv
    go_wp2_with (at_builtin; refine wpList_append_rd rfl (.tmp 92) (.tmp 95) 41 rfl 5 .u8 w.heap.size 1 Try.underlying41 infoU8 _ _ rfl hown2 ao1 _ _ _ rfl hrd (by simp <;> omega) (by simp <;> omega) (by omega) ?_; intro v' w2 h3 h4 _)
    go_ret
    exact ⟨_, rfl, h3, (Bl.step hbb hb2).trans h4⟩

set_option maxHeartbeats 1000000 in
theorem refPut_5 (op x y : Int) (ao : Option Addr) (n cap : Nat) (w : World) (hs : sh op = 5) (hx : 0 ≤ x ∧ x ≤ 1000) :
    Calls Try.prog 30 #[iv op x y ao n cap] w fun e w' => ∃ v, e = .returned v ∧ Own 5 .u8 w.heap.size w' v (op :: (encU 9 x ++ [0])) ∧ Below w.heap.size w w' := by
  have Hs := hid hs
  have hop := sh_byte (op := op) (by rw [hs]; decide)
  clear hs
  have hwo : IntKind.u8.wrap op = op := by rw [IntKind.wrap_u8]; omega
  have Hwo := hid hwo
  clear hwo
  obtain ⟨w0, hw0⟩ : ∃ w0, w0 = (w.alloc (.cells #[.int .i64 op, .int .i64 x, .int .i64 y, .slice ao n cap] 39)).alloc (.cells #[.int .u8 op] 5) := ⟨_, rfl⟩
  have hbb : Below w.heap.size w w0 := by rw [hw0]; exact Bl.alloc (Bl.alloc (Bl.refl w) _) _
  have B4 : Hid (Box4 w0 w.heap.size op x y ao n cap) := by rw [hw0]; exact (Box4.new w op x y ao n cap 39).below (Bl.alloc (Bl.refl _) _)
  have hb0 : Own 5 .u8 w.heap.size w0 (.slice (some ⟨w.heap.size + 1, 0, none⟩) 1 1) [op] := by
    rw [hw0]
    have := own_built (w.alloc (.cells #[.int .i64 op, .int .i64 x, .int .i64 y, .slice ao n cap] 39)) .u8 5 [op] (by unfold maxLen; simp) (fun z hz => by simp at hz; subst hz; exact WalkArith.wf_u8 hop)
    have h2 := this.lift (base' := w.heap.size) (by simp)
    simpa using h2
  have HB := hid hb0
  have HW := hid hw0
  have hsz := hbb.size
  clear hw0 hb0
  have hxa := encU_len 9 x
  go_enter Try.func30, Try.ntmps30
  go_wp2_with fail
  try rw [Hwo.out]
  rw [← HW.out]
  refine (form_to _ _ Hs.out _).mono ?_
  rintro e w1 ⟨rfl, rfl⟩
  obtain ⟨hc0, hc1, hc2, hc3⟩ := B4.out
  go_wp2_with fail
  refine (refU_any x _ (by omega) (by omega)).mono ?_
  rintro e w3 ⟨v, rfl, hv, hb2⟩
  obtain ⟨ao1, cap1, rfl, hrd⟩ := hv.rd
  have hown2 := HB.out.below hb2 (Nat.le_refl _)
  have hsz2 := hb2.size
  clear hv
  go_wp2_with (first | (at_builtin; refine wpList_append_rd rfl (.tmp 32) (.tmp 36) 41 rfl 5 .u8 w.heap.size 1 Try.underlying41 infoU8 _ _ rfl hown2 ao1 _ _ _ rfl hrd (by simp <;> omega) (by simp <;> omega) (by omega) ?_; intro v' w2 h3 h4 _) | (at_builtin; refine wpList_append_rd rfl (.tmp 37) (.tmp 38) 41 rfl 5 .u8 w.heap.size 1 Try.underlying41 infoU8 _ _ rfl (h3.alloc _) _ 1 1 [0] rfl (Rd.built _ _ _ _ (by decide)) (by simp <;> omega) (by simp <;> omega) (by simp; have := h4.size; omega) ?_; intro v3 w4 h5 h6 _))
  go_ret
  exact ⟨_, rfl, by simpa using h5, (((Bl.step hbb hb2).trans h4).alloc (by have := h4.size; omega) _).trans h6⟩

set_option maxHeartbeats 1000000 in
theorem refPut_2 (op x y : Int) (ao : Option Addr) (n cap : Nat) (w : World) (hs : sh op = 2) (hx : x = 0 ∨ x = 1 ∨ x = 2) :
    Calls Try.prog 30 #[iv op x y ao n cap] w fun e w' => ∃ v, e = .returned v ∧ Own 5 .u8 w.heap.size w' v (op :: [resB x]) ∧ Below w.heap.size w w' := by
  have Hs := hid hs
  have hop := sh_byte (op := op) (by rw [hs]; decide)
  clear hs
  have hwo : IntKind.u8.wrap op = op := by rw [IntKind.wrap_u8]; omega
  have Hwo := hid hwo
  clear hwo
  obtain ⟨w0, hw0⟩ : ∃ w0, w0 = (w.alloc (.cells #[.int .i64 op, .int .i64 x, .int .i64 y, .slice ao n cap] 39)).alloc (.cells #[.int .u8 op] 5) := ⟨_, rfl⟩
  have hbb : Below w.heap.size w w0 := by rw [hw0]; exact Bl.alloc (Bl.alloc (Bl.refl w) _) _
  have B4 : Hid (Box4 w0 w.heap.size op x y ao n cap) := by rw [hw0]; exact (Box4.new w op x y ao n cap 39).below (Bl.alloc (Bl.refl _) _)
  have hb0 : Own 5 .u8 w.heap.size w0 (.slice (some ⟨w.heap.size + 1, 0, none⟩) 1 1) [op] := by
    rw [hw0]
    have := own_built (w.alloc (.cells #[.int .i64 op, .int .i64 x, .int .i64 y, .slice ao n cap] 39)) .u8 5 [op] (by unfold maxLen; simp) (fun z hz => by simp at hz; subst hz; exact WalkArith.wf_u8 hop)
    have h2 := this.lift (base' := w.heap.size) (by simp)
    simpa using h2
  have HB := hid hb0
  have HW := hid hw0
  have hsz := hbb.size
  clear hw0 hb0
  go_enter Try.func30, Try.ntmps30
  go_wp2_with fail
  try rw [Hwo.out]
  rw [← HW.out]
  refine (form_to _ _ Hs.out _).mono ?_
  rintro e w1 ⟨rfl, rfl⟩
  obtain ⟨hc0, hc1, hc2, hc3⟩ := B4.out
  have hlt := B4.out.lt
  rcases hx with rfl | rfl | rfl
  · go_wp2_with (at_builtin; refine wpList_append_rd rfl (.tmp 14) (.tmp 20) 41 rfl 5 .u8 w.heap.size 1 Try.underlying41 infoU8 _ _ rfl ((HB.out.alloc _).alloc _) _ 1 1 [64] rfl (Rd.built_at _ .u8 _ 64 (by decide) (by simp)) (by simp <;> omega) (by simp <;> omega) (by simp <;> omega) ?_; intro v' w2 h3 h4 _)
    go_ret
    exact ⟨_, rfl, h3, ((hbb.alloc hsz _).alloc (by simp <;> omega) _).trans h4⟩
  · go_wp2_with (at_builtin; refine wpList_append_rd rfl (.tmp 14) (.tmp 20) 41 rfl 5 .u8 w.heap.size 1 Try.underlying41 infoU8 _ _ rfl ((HB.out.alloc _).alloc _) _ 1 1 [127] rfl (Rd.built_at _ .u8 _ 127 (by decide) (by simp)) (by simp <;> omega) (by simp <;> omega) (by simp <;> omega) ?_; intro v' w2 h3 h4 _)
    go_ret
    exact ⟨_, rfl, h3, ((hbb.alloc hsz _).alloc (by simp <;> omega) _).trans h4⟩
  · go_wp2_with (at_builtin; refine wpList_append_rd rfl (.tmp 14) (.tmp 20) 41 rfl 5 .u8 w.heap.size 1 Try.underlying41 infoU8 _ _ rfl ((HB.out.alloc _).alloc _) _ 1 1 [126] rfl (Rd.built_at _ .u8 _ 126 (by decide) (by simp)) (by simp <;> omega) (by simp <;> omega) (by simp <;> omega) ?_; intro v' w2 h3 h4 _)
    go_ret
    exact ⟨_, rfl, h3, ((hbb.alloc hsz _).alloc (by simp <;> omega) _).trans h4⟩

set_option maxHeartbeats 1000000 in
theorem refPut_4 (op x y : Int) (ao : Option Addr) (n cap : Nat) (l : List Int) (w : World) (hs : sh op = 4) (hx : 0 ≤ x ∧ x ≤ 1000) (hr : Rd .i64 w ao n cap l) (hi : ∀ x ∈ l, 0 ≤ x ∧ x ≤ 1000) (hn : n ≤ 1000) :
    Calls Try.prog 30 #[iv op x y ao n cap] w fun e w' => ∃ v, e = .returned v ∧ Own 5 .u8 w.heap.size w' v (op :: (encU 9 n ++ (encL l ++ encU 9 x))) ∧ Below w.heap.size w w' := by
  have Hs := hid hs
  have hop := sh_byte (op := op) (by rw [hs]; decide)
  clear hs
  have hwo : IntKind.u8.wrap op = op := by rw [IntKind.wrap_u8]; omega
  have Hwo := hid hwo
  clear hwo
  obtain ⟨w0, hw0⟩ : ∃ w0, w0 = (w.alloc (.cells #[.int .i64 op, .int .i64 x, .int .i64 y, .slice ao n cap] 39)).alloc (.cells #[.int .u8 op] 5) := ⟨_, rfl⟩
  have hbb : Below w.heap.size w w0 := by rw [hw0]; exact Bl.alloc (Bl.alloc (Bl.refl w) _) _
  have B4 : Hid (Box4 w0 w.heap.size op x y ao n cap) := by rw [hw0]; exact (Box4.new w op x y ao n cap 39).below (Bl.alloc (Bl.refl _) _)
  have hb0 : Own 5 .u8 (w.heap.size + 1) w0 (.slice (some ⟨w.heap.size + 1, 0, none⟩) 1 1) [op] := by
    rw [hw0]
    have := own_built (w.alloc (.cells #[.int .i64 op, .int .i64 x, .int .i64 y, .slice ao n cap] 39)) .u8 5 [op] (by unfold maxLen; simp) (fun z hz => by simp at hz; subst hz; exact WalkArith.wf_u8 hop)
    simpa using this
  have HB := hid hb0
  have HW := hid hw0
  have hsz := hbb.size
  clear hb0
  have hxa := encU_len 9 x
  have Hi := hid hi
  have Hx := hid hr.len
  have Hr := hid hr
  have hsz1 : w.heap.size + 1 ≤ w0.heap.size := by rw [hw0]; simp
  clear hi hr
  clear hw0
  go_enter Try.func30, Try.ntmps30
  go_wp2_with fail
  try rw [Hwo.out]
  rw [← HW.out]
  refine (form_to _ _ Hs.out _).mono ?_
  rintro e w1 ⟨rfl, rfl⟩
  obtain ⟨hc0, hc1, hc2, hc3⟩ := B4.out
  go_wp2_with fail
  refine (refU_any (n : Int) _ (by omega) (by omega)).mono ?_
  rintro e w3 ⟨v, rfl, hv, hb2⟩
  obtain ⟨ao1, cap1, rfl, hrd⟩ := hv.rd
  have hown2 := HB.out.below hb2 (Nat.le_refl _)
  have hsz2 := hb2.size
  have hxn := encU_len 9 (n : Int)
  have B43 := hid (B4.out.below hb2)
  have hbb3 := Bl.step hbb hb2
  clear hv hc0 hc1 hc2 hc3
  go_wp2_with (at_builtin; refine wpList_append_rd rfl (.tmp 42) (.tmp 47) 41 rfl 5 .u8 (w.heap.size + 1) 1 Try.underlying41 infoU8 _ _ rfl hown2 ao1 _ _ _ rfl hrd (by simp <;> omega) (by simp <;> omega) (by omega) ?_; intro v4 w4 hv4 hb4 _; have hz4 := hid hb4; have Hv4 := hid hv4; clear hb4 hv4)
  have hbb4 : Hid (Below w.heap.size w w4) := hid (hbb3.trans (hz4.out.mono (by omega)))
  go_loopw [3, 4] (fun v i wr => ∃ k : Nat, k ≤ n ∧ i = .int .i64 k ∧ Own 5 .u8 (w.heap.size + 1) wr v (op :: encU 9 n ++ encL (l.take k)) ∧ Below w.heap.size w wr ∧ Box4 wr w.heap.size op x y ao n cap ∧ w.heap.size + 1 ≤ wr.heap.size) (fun _ i _ => n - (intOf i).toNat)
  case atStart => exact ⟨0, Nat.zero_le _, rfl, by simpa [encL] using Hv4.out, hbb4.out, B43.out.keep hz4.out (Nat.lt_succ_self _), by have := hz4.out.size; omega⟩
  case round =>
    obtain ⟨k, hkn, rfl, hv, hb, hbx, hszr⟩ := hrel
    by_cases hk : k < n
    · obtain ⟨b, off, rfl, hc⟩ := (Hr.out.below hb).at (by omega)
      have hck := hc k hk
      have hkl : k < l.length := by rw [Hx.out]; exact hk
      obtain ⟨z, hzk⟩ : ∃ z, z = l.getD k 0 := ⟨_, rfl⟩
      have hzb : 0 ≤ z ∧ z ≤ 1000 := by rw [hzk]; exact Hi.out _ (by simp [List.getD, hkl])
      have hs := take_snoc hkl
      rw [← hzk] at hck hs
      have Hs' := hid hs
      have hle : (op :: encU 9 (n : Int) ++ encL (l.take k)).length ≤ 20000 := by
        have h1 := encL_len (l.take k)
        have h3 : (l.take k).length ≤ k := List.length_take_le _ _
        simp only [List.cons_append, List.length_cons, List.length_append]
        omega
      have hxl : (encU 9 z).length ≤ 10 := encU_len 9 z
      obtain ⟨ys, hys⟩ : ∃ ys, ys = op :: encU 9 (n : Int) ++ encL (l.take k) := ⟨_, rfl⟩
      rw [← hys] at hv hle
      have Hys := hid hys
      clear hc hzk hs hys
      obtain ⟨hc0, hc1, hc2, hc3⟩ := hbx
      have Hbx : Hid (Box4 wr w.heap.size op x y (some ⟨b, off, none⟩) n cap) := hid ⟨hc0, hc1, hc2, hc3⟩
      go_wp2_with fail
      refine (refU_any z _ (by omega) (by omega)).mono ?_
      rintro e w5 ⟨v1, rfl, hv1, hb1⟩
      obtain ⟨ao5, cap5, rfl, hr5⟩ := hv1.rd
      have hv' := hv.below hb1 (Nat.le_refl _)
      have hsz5 := hb1.size
      obtain ⟨m1, hm1⟩ : ∃ m1, m1 = (encU 9 z).length := ⟨_, rfl⟩
      rw [← hm1] at hr5 hxl ⊢
      have Hm1 := hid hm1
      clear hm1 hv hv1
      go_wp2_with (at_builtin; refine wpList_append_rd rfl (.tmp 56) (.tmp 63) 41 rfl 5 .u8 (w.heap.size + 1) 1 Try.underlying41 infoU8 _ _ rfl hv' ao5 _ cap5 _ rfl hr5 (by omega) (by omega) (by omega) ?_; intro v' w2 h3 h4 _)
      go_roundw
      case rel =>
        refine ⟨k + 1, by omega, by go_num, ?_, Bl.step hb hb1 |>.trans (h4.mono (by omega)), (Hbx.out.below hb1).keep h4 (Nat.lt_succ_self _), by have := h4.size; omega⟩
        rw [Hs'.out, encL_snoc, ← List.append_assoc, ← Hys.out]
        exact h3
      case measure => simp [intOf]; omega
    · have e0 : k = n := by omega
      subst e0
      have hl : l.take k = l := List.take_of_length_le (by rw [Hx.out]; omega)
      rw [hl] at hv
      have Hv := hid hv
      obtain ⟨hc0, hc1, hc2, hc3⟩ := hbx
      have Hbx : Hid (Box4 wr w.heap.size op x y ao k cap) := hid ⟨hc0, hc1, hc2, hc3⟩
      have hle : (op :: encU 9 (k : Int) ++ encL l).length ≤ 20000 := by
        have h1 := encL_len l
        rw [Hx.out] at h1
        simp only [List.cons_append, List.length_cons, List.length_append]
        omega
      clear hl hv
      go_wp2_with fail
      refine (refU_any x _ (by omega) (by omega)).mono ?_
      rintro e w5 ⟨v1, rfl, hv1, hb1⟩
      obtain ⟨ao5, cap5, rfl, hr5⟩ := hv1.rd
      have hv' := Hv.out.below hb1 (Nat.le_refl _)
      have hsz5 := hb1.size
      clear hv1
      go_wp2_with (at_builtin; refine wpList_append_rd rfl (.tmp 65) (.tmp 69) 41 rfl 5 .u8 (w.heap.size + 1) 1 Try.underlying41 infoU8 _ _ rfl hv' ao5 _ cap5 _ rfl hr5 (by omega) (by omega) (by omega) ?_; intro v' w2 h3 h4 _)
      go_ret
      refine ⟨_, rfl, ?_, Bl.step hb hb1 |>.trans (h4.mono (by omega))⟩
      have h5 := h3.lift (base' := w.heap.size) (by omega)
      simpa using h5

set_option maxHeartbeats 1000000 in
theorem refPut_6 (op x y : Int) (ao : Option Addr) (n cap : Nat) (w : World) (hs : sh op = 6) (hx : 0 ≤ x ∧ x ≤ 3) (hy : 0 ≤ y ∧ y ≤ 4294967295) :
    Calls Try.prog 30 #[iv op x y ao n cap] w fun e w' => ∃ v, e = .returned v ∧ Own 5 .u8 w.heap.size w' v (op :: (encU 9 x ++ encU 9 y)) ∧ Below w.heap.size w w' := by
  have Hs := hid hs
  have hop := sh_byte (op := op) (by rw [hs]; decide)
  have hxa := encU_len 9 x
  have hxb := encU_len 9 y
  clear hs
  have hwo : IntKind.u8.wrap op = op := by rw [IntKind.wrap_u8]; omega
  have Hwo := hid hwo
  clear hwo
  obtain ⟨w0, hw0⟩ : ∃ w0, w0 = (w.alloc (.cells #[.int .i64 op, .int .i64 x, .int .i64 y, .slice ao n cap] 39)).alloc (.cells #[.int .u8 op] 5) := ⟨_, rfl⟩
  have hbb : Below w.heap.size w w0 := by rw [hw0]; exact Bl.alloc (Bl.alloc (Bl.refl w) _) _
  have B4 : Hid (Box4 w0 w.heap.size op x y ao n cap) := by rw [hw0]; exact (Box4.new w op x y ao n cap 39).below (Bl.alloc (Bl.refl _) _)
  have Hb0 : Hid (Rd .u8 w0 (some ⟨w.heap.size + 1, 0, none⟩) 1 1 [op]) := by
    rw [hw0]
    have := Rd.built (w.alloc (.cells #[.int .i64 op, .int .i64 x, .int .i64 y, .slice ao n cap] 39)) .u8 5 op (WalkArith.wf_u8 hop)
    exact hid (by simpa using this)
  have HW := hid hw0
  clear hw0
  go_enter Try.func30, Try.ntmps30
  go_wp2_with fail
  try rw [Hwo.out]
  rw [← HW.out]
  refine (form_to _ _ Hs.out _).mono ?_
  rintro e w1 ⟨rfl, rfl⟩
  go_wp2_with fail
  refine wp_region_below_tail 10 (by kernel_rfl) [Is (.slice (some ⟨w.heap.size + 1, 0, none⟩) 1 1), Is ?vB1, Is (.int .i64 x), Is (.int .u64 x), IsRd .u8 (encU 9 x), IsOwn 5 .u8 w0.heap.size ([op] ++ encU 9 x), Is ?vB6, Is (.int .i64 y), Is (.int .u64 y), IsRd .u8 (encU 9 y)] [0, 1, 2, 3, 4, 5, 6, 7, 8, 9] rfl (by kernel_rfl) rfl (by kernel_rfl) ?hopB ?hstB ?hendB
  case hopB =>
    refine ⟨⟨⟨_, _, _, _, _, _⟩, _, Is (.slice (some ⟨w.heap.size + 1, 0, none⟩) 1 1), none, [], [(3, .slice (some ⟨w.heap.size + 1, 0, none⟩) 1 1)], rfl, rfl, rfl, rfl, rfl, ⟨⟨by kernel_rfl, rfl⟩, trivial⟩, ?_⟩, ?_⟩
    · intro a w1 hC e3
      refine Or.inl ⟨.slice (some ⟨w.heap.size + 1, 0, none⟩) 1 1, ?_, rfl⟩
      go_simp
    refine ⟨⟨⟨_, _, _, _, _, _⟩, _, Is ?vB1, none, [], [(1, .pointer (some ⟨w.heap.size, 0, none⟩))], rfl, rfl, rfl, rfl, rfl, ⟨⟨by kernel_rfl, rfl⟩, trivial⟩, ?_⟩, ?_⟩
    · intro a w1 hC e1
      refine Or.inl ⟨_, ?_, rfl⟩
      go_simp
      first | (go_bits; rfl) | rfl | (rw [if_pos (by omega)])
    refine ⟨⟨⟨_, _, _, _, _, _⟩, _, Is (.int .i64 x), none, [(some 74, Is ?vB1)], [], rfl, rfl, rfl, rfl, rfl, trivial, ?_⟩, ?_⟩
    · intro a w1 hC  (h1 : a.tmps.getD 74 undef = _)
      refine Or.inl ⟨.int .i64 x, ?_, rfl⟩
      have b4 := B4.out.below hC
      have hcw0 := b4.c1
      clear b4
      go_simp
    refine ⟨⟨⟨_, _, _, _, _, _⟩, _, Is (.int .u64 x), none, [(some 75, Is (.int .i64 x))], [], rfl, rfl, rfl, rfl, rfl, trivial, ?_⟩, ?_⟩
    · intro a w1 hC  (h2 : a.tmps.getD 75 undef = _)
      refine Or.inl ⟨.int .u64 x, ?_, rfl⟩
      go_simp
      rw [IntKind.wrap_u64]
      omega
    refine ⟨⟨⟨_, _, _, _, _, _⟩, _, IsRd .u8 (encU 9 x), none, [(some 76, Is (.int .u64 x))], [], rfl, rfl, rfl, rfl, rfl, trivial, ?_⟩, ?_⟩
    · intro a w1 hC  (h3 : a.tmps.getD 76 undef = _)
      refine Or.inr (Or.inl ⟨42, #[.int .u64 x], ?_, ?_⟩)
      · go_simp
      · refine (refU_any x w1 (by omega) (by omega)).mono ?_
        rintro e w2 ⟨vv, rfl, hown, hbel⟩
        obtain ⟨ao1, cap1, rfl, hrd⟩ := hown.rd
        exact ⟨_, rfl, ⟨ao1, cap1, rfl, hrd⟩, hbel⟩
    refine ⟨⟨⟨_, _, _, _, _, _⟩, _, IsOwn 5 .u8 w0.heap.size ([op] ++ encU 9 x), none, [(some 73, Is (.slice (some ⟨w.heap.size + 1, 0, none⟩) 1 1)), (some 77, IsRd .u8 (encU 9 x)), (some 77, IsRd .u8 (encU 9 x))], [], rfl, rfl, rfl, rfl, rfl, trivial, ?_⟩, ?_⟩
    · intro a w1 hC  (h0 : a.tmps.getD 73 undef = _) h4 _
      obtain ⟨ao1, cap1, e4, hrd⟩ := h4
      have e4 : a.tmps.getD 77 undef = _ := e4
      cases ao1 with
      | none => have := hrd.nil rfl; have := hrd.le; have := encU_ne 9 x; have : (encU 9 x).length = 0 := by omega
                exact absurd (List.length_eq_zero_iff.1 this) (encU_ne 9 x)
      | some ad =>
        obtain ⟨v1, w2, hrun, hown, hbel⟩ := run_append_full (P := Try.prog) (w := w1) 41 41 5 .u8 1 Try.underlying41 infoU8 _ _ _ _ _ _ _ (Hb0.out.below hC) hrd (List.length_pos_iff.2 (encU_ne 9 x)) (by omega) (by omega)
        refine Or.inr (Or.inr ⟨v1, w2, ?_, hown.lift hC.size, hbel⟩)
        exact exec_append rfl h0 e4 hrun
    refine ⟨⟨⟨_, _, _, _, _, _⟩, _, Is ?vB6, none, [], [(1, .pointer (some ⟨w.heap.size, 0, none⟩))], rfl, rfl, rfl, rfl, rfl, ⟨⟨by kernel_rfl, rfl⟩, trivial⟩, ?_⟩, ?_⟩
    · intro a w1 hC e1
      refine Or.inl ⟨_, ?_, rfl⟩
      go_simp
      first | (go_bits; rfl) | rfl | (rw [if_pos (by omega)])
    refine ⟨⟨⟨_, _, _, _, _, _⟩, _, Is (.int .i64 y), none, [(some 79, Is ?vB6)], [], rfl, rfl, rfl, rfl, rfl, trivial, ?_⟩, ?_⟩
    · intro a w1 hC  (h6 : a.tmps.getD 79 undef = _)
      refine Or.inl ⟨.int .i64 y, ?_, rfl⟩
      have b4 := B4.out.below hC
      have hcw0 := b4.c2
      clear b4
      go_simp
    refine ⟨⟨⟨_, _, _, _, _, _⟩, _, Is (.int .u64 y), none, [(some 80, Is (.int .i64 y))], [], rfl, rfl, rfl, rfl, rfl, trivial, ?_⟩, ?_⟩
    · intro a w1 hC  (h7 : a.tmps.getD 80 undef = _)
      refine Or.inl ⟨.int .u64 y, ?_, rfl⟩
      go_simp
      rw [IntKind.wrap_u64]
      omega
    refine ⟨⟨⟨_, _, _, _, _, _⟩, _, IsRd .u8 (encU 9 y), none, [(some 81, Is (.int .u64 y)), (some 78, IsOwn 5 .u8 w0.heap.size ([op] ++ encU 9 x))], [], rfl, rfl, rfl, rfl, rfl, trivial, ?_⟩, ?_⟩
    · intro a w1 hC  (h8 : a.tmps.getD 81 undef = _) h5
      refine Or.inr (Or.inl ⟨42, #[.int .u64 y], ?_, ?_⟩)
      · go_simp
      · refine (refU_any y w1 (by omega) (by omega)).mono ?_
        rintro e w2 ⟨vv, rfl, hown, hbel⟩
        obtain ⟨ao1, cap1, rfl, hrd⟩ := hown.rd
        exact ⟨_, rfl, ⟨ao1, cap1, rfl, hrd⟩, hbel⟩
    exact trivial
  case hstB => exact ⟨Stays.is _, Stays.is _, Stays.is _, Stays.is _, Stays.rd _ _, Stays.own _ _ _ _, Stays.is _, Stays.is _, Stays.is _, Stays.rd _ _, trivial⟩
  case hendB =>
    intro w1 hC
    rintro _ rfl
    rintro _ rfl
    rintro _ rfl
    rintro _ rfl
    intro x4 h4
    intro x5 h5
    rintro _ rfl
    rintro _ rfl
    rintro _ rfl
    intro x9 h9
    obtain ⟨aoq, capq, rfl, hrq⟩ := h9
    simp only [Ends, Act.put, List.setIfInBounds_toArray, List.set_cons_succ, List.set_cons_zero, List.drop_succ_cons, List.drop_zero]
    have hown2 := Own.lift h5 hbb.size
    have sz : w.heap.size ≤ w1.heap.size := Nat.le_trans hbb.size hC.size
    clear h5
    go_wp2_with (at_builtin; refine wpList_append_rd rfl (.tmp 78) (.tmp 82) 41 rfl 5 .u8 w.heap.size 1 Try.underlying41 infoU8 _ _ rfl hown2 aoq _ capq _ rfl hrq (by simp; omega) (by simp; omega) sz ?_; intro v2 w2 h3 h4 _)
    go_ret
    refine ⟨_, rfl, ?_, (Bl.step hbb hC).trans h4⟩
    simpa using h3

/-- The reference's bytes of an instruction. -/
theorem refPut_to (op x y : Int) (ao : Option Addr) (n cap : Nat) (l : List Int) (w : World) (h : mayI op x y l = true) (hx : -9223372036854775808 ≤ x ∧ x ≤ 9223372036854775807) (hr : Rd .i64 w ao n cap l) :
    Calls Try.prog 30 #[iv op x y ao n cap] w fun e w' => ∃ v, e = .returned v ∧ Own 5 .u8 w.heap.size w' v (encI op x y l) ∧ Below w.heap.size w w' := by
  obtain ⟨h1, h2, h3⟩ := may_parts h
  have hb := sh_bounds op
  unfold encI
  obtain ⟨s, hs⟩ : ∃ s, sh op = s := ⟨_, rfl⟩
  rw [hs] at h1 h2 h3 hb ⊢
  have e : s = 0 ∨ s = 1 ∨ s = 2 ∨ s = 3 ∨ s = 4 ∨ s = 5 ∨ s = 6 ∨ s = 7 ∨ s = 8 ∨ s = 9 := by omega
  rcases e with rfl | rfl | rfl | rfl | rfl | rfl | rfl | rfl | rfl | rfl
  · simp [mayAS] at h1
  · exact refPut_1 op x y ao n cap w hs
  · exact refPut_2 op x y ao n cap w hs (by simpa [mayAS] using h1)
  · exact refPut_3 op x y ao n cap w hs (by simpa [mayAS] using h1)
  · have hl : l.length ≤ 50 ∧ ∀ x ∈ l, 0 ≤ x ∧ x ≤ 1000 := by simpa [mayLS, idx] using h3
    refine (refPut_4 op x y ao n cap l w hs (by simpa [mayAS] using h1) hr hl.2 (by rw [← hr.len]; omega)).mono ?_
    rintro e w' ⟨v, rfl, hv, hb⟩
    refine ⟨v, rfl, ?_, hb⟩
    rw [← hr.len] at hv
    exact hv
  · exact refPut_5 op x y ao n cap w hs (by simpa [mayAS] using h1)
  · exact refPut_6 op x y ao n cap w hs (by simpa [mayAS] using h1) (by simpa [mayBS] using h2)
  · exact refPut_7 op x y ao n cap w hs
  · exact refPut_89 op x y ao n cap w 8 hs (.inl rfl) hx
  · exact refPut_89 op x y ao n cap w 9 hs (.inr rfl) hx
end Go.Proofs.Ytfambbpggodlkaa
