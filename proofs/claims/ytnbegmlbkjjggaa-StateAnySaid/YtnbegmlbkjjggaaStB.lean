/- state's laws: begun. -/
import Derived.Test.YtnbegmlbkjjggaaStX
import Derived.Deep.CutBlock
namespace Go.Proofs.Ytnbegmlbkjjggaa
open Go.RowKit
set_option linter.unusedVariables false

def S0 : St := ⟨[(1, -5)], [⟨2, 7, [(2, 0)], 0, [(1, 1)]⟩], -1⟩
theorem rd1 {w : World} {q : Nat} {x y : Int} (h : Cel w q [.int .i64 x, .int .i64 y]) (hx : (Lit.int .i64 x).wf = true) (hy : (Lit.int .i64 y).wf = true) : RdG 2 PaR w (some ⟨q, 0, none⟩) 1 1 [(x, y)] := by
  refine ⟨rfl, Nat.le_refl _, by decide, (fun e => by cases e), fun i v hi => ?_⟩
  have hi0 : i = 0 := by have := (List.getElem?_eq_some_iff.1 hi).1; simp at this; omega
  subst hi0
  simp at hi
  subst hi
  exact ⟨q, 0, [.int .i64 x, .int .i64 y], rfl, rfl, ⟨rfl, hx, hy⟩, fun j v hj => by simpa using h.cell j v hj⟩
theorem rdF1 {w : World} {q : Nat} {a b d : Int} {o1 o2 : Option Addr} {n1 n2 c1 c2 : Nat} {l1 l2 : List (Int × Int)} (h : Cel w q [.int .i64 a, .int .i64 b, .slice o1 n1 c1, .int .i64 d, .slice o2 n2 c2]) (h1 : RdG 2 PaR w o1 n1 c1 l1) (h2 : RdG 2 PaR w o2 n2 c2 l2) (ha : (Lit.int .i64 a).wf = true) (hb : (Lit.int .i64 b).wf = true) (hd : (Lit.int .i64 d).wf = true) : RdG 5 FrR w (some ⟨q, 0, none⟩) 1 1 [⟨a, b, l1, d, l2⟩] := by
  refine ⟨rfl, Nat.le_refl _, by decide, (fun e => by cases e), fun i v hi => ?_⟩
  have hi0 : i = 0 := by have := (List.getElem?_eq_some_iff.1 hi).1; simp at this; omega
  subst hi0
  simp at hi
  subst hi
  exact ⟨q, 0, _, rfl, rfl, ⟨_, _, _, _, _, _, rfl, h1, h2, ha, hb, hd⟩, fun j v hj => by simpa using h.cell j v hj⟩
def V0 (p : Nat) : SV := ⟨some ⟨p, 0, none⟩, 1, 1, some ⟨p + 1 + 1 + 1, 0, none⟩, 1, 1⟩
theorem Cel.al {w : World} {p : Nat} {cs : List Value} (h : Cel w p cs) (h0 : 0 < cs.length) (o : Obj) : Cel (w.alloc o) p cs := h.below h0 (Bl.alloc (Bl.refl _) _)
theorem StR.below {V : SV} {S : St} {w w' : World} (h : StR V S w) (hb : Below w.heap.size w w') : StR V S w' := (Rx.below h.rx hb).now
/-- A cell that is read lies where it is said that all is read. -/
theorem Bx.block {C : Nat → Prop} {w : World} {Φ : World → Prop} (h : Bx C w Φ) {a : Addr} (hc : ∀ w', Φ w' → ∃ z, w'.cell? a = some (.int .i64 z)) : C a.block := by
  apply Classical.byContradiction
  intro hn
  obtain ⟨z, hz⟩ := hc w h.now
  obtain ⟨z', hz'⟩ := hc (w.setCell a (.bool true)) (h _ fun b hb => Below.heap_setCell w a (.bool true) b (fun e => hn (e ▸ hb)))
  rw [World.cell?_setCell_same _ _ _ hz] at hz'
  cases hz'
theorem StR.val0 {V : SV} {S : St} {w : World} (h : StR V S w) (hn : 0 < V.vn) : ∃ b off, V.vo = some ⟨b, off, none⟩ ∧ ∃ x y, S.vs[0]? = some (x, y) ∧ w.cell? ⟨b, off, none⟩ = some (.int .i64 x) ∧ w.cell? ⟨b, off + 1, none⟩ = some (.int .i64 y) := by
  obtain ⟨b, off, x, y, e, hx, h1, h2, _⟩ := h.v.at2 hn
  exact ⟨b, off, e, x, y, hx, by simpa using h1, by simpa using h2⟩
theorem S0_ok : wfS S0 ∧ mayS S0 = true := by
  refine ⟨⟨?_, ?_, ?_⟩, ?_⟩ <;> simp [S0, wfP, wfF, mayS, mayF, okV, okv, okN, okL, Lit.wf] <;> decide

theorem S0_tame : tameS S0 := ⟨by decide, by decide, fun f hf => by simp [S0] at hf; subst hf; exact ⟨by decide, by decide⟩⟩
theorem S0_at (w : World) (p : Nat) (hp : w.heap.size = p) (w1 : World) (h : (((((w.alloc (.cells #[.int .i64 1, .int .i64 (-5)] 39)).alloc (.cells #[.int .i64 2, .int .i64 0] 39)).alloc (.cells #[.int .i64 1, .int .i64 1] 44)).alloc (.cells #[.int .i64 2, .int .i64 7, .slice (some ⟨p + 1, 0, none⟩) 1 1, .int .i64 0, .slice (some ⟨p + 1 + 1, 0, none⟩) 1 1] 42)).alloc (.cells #[.slice (some ⟨p, 0, none⟩) 1 1, .slice (some ⟨p + 1 + 1 + 1, 0, none⟩) 1 1, .int .i64 (-1)] 25)) = w1) :
    Cel w1 (p + 1 + 1 + 1 + 1) [.slice (some ⟨p, 0, none⟩) 1 1, .slice (some ⟨p + 1 + 1 + 1, 0, none⟩) 1 1, .int .i64 (-1)] ∧ StR (V0 p) S0 w1 ∧ w1.heap.size = p + 1 + 1 + 1 + 1 + 1 ∧ Below p w w1 := by
  have hb : Below p w w1 := by rw [← h, ← hp]; exact Bl.alloc (Bl.alloc (Bl.alloc (Bl.alloc (Bl.alloc (Bl.refl _) _) _) _) _) _
  have c0 := Cel.new w [.int .i64 1, .int .i64 (-5)] 39
  rw [hp] at c0
  obtain ⟨a1, ha1⟩ : ∃ a, w.alloc (.cells #[.int .i64 1, .int .i64 (-5)] 39) = a := ⟨_, rfl⟩
  have z1 : a1.heap.size = p + 1 := by rw [← ha1]; simp [hp]
  rw [ha1] at h
  replace c0 : Cel a1 p _ := ha1 ▸ c0
  have c1 := Cel.new a1 [.int .i64 2, .int .i64 0] 39
  rw [z1] at c1
  obtain ⟨a2, ha2⟩ : ∃ a, a1.alloc (.cells #[.int .i64 2, .int .i64 0] 39) = a := ⟨_, rfl⟩
  have z2 : a2.heap.size = p + 1 + 1 := by rw [← ha2]; simp [z1]
  rw [ha2] at h
  replace c0 : Cel a2 p _ := ha2 ▸ c0.al (Nat.succ_pos _) _
  replace c1 : Cel a2 (p + 1) _ := ha2 ▸ c1
  have c2 := Cel.new a2 [.int .i64 1, .int .i64 1] 44
  rw [z2] at c2
  obtain ⟨a3, ha3⟩ : ∃ a, a2.alloc (.cells #[.int .i64 1, .int .i64 1] 44) = a := ⟨_, rfl⟩
  have z3 : a3.heap.size = p + 1 + 1 + 1 := by rw [← ha3]; simp [z2]
  rw [ha3] at h
  replace c0 : Cel a3 p _ := ha3 ▸ c0.al (Nat.succ_pos _) _
  replace c1 : Cel a3 (p + 1) _ := ha3 ▸ c1.al (Nat.succ_pos _) _
  replace c2 : Cel a3 (p + 1 + 1) _ := ha3 ▸ c2
  have c3 := Cel.new a3 [.int .i64 2, .int .i64 7, .slice (some ⟨p + 1, 0, none⟩) 1 1, .int .i64 0, .slice (some ⟨p + 1 + 1, 0, none⟩) 1 1] 42
  rw [z3] at c3
  obtain ⟨a4, ha4⟩ : ∃ a, a3.alloc (.cells #[.int .i64 2, .int .i64 7, .slice (some ⟨p + 1, 0, none⟩) 1 1, .int .i64 0, .slice (some ⟨p + 1 + 1, 0, none⟩) 1 1] 42) = a := ⟨_, rfl⟩
  have z4 : a4.heap.size = p + 1 + 1 + 1 + 1 := by rw [← ha4]; simp [z3]
  rw [ha4] at h
  replace c0 : Cel a4 p _ := ha4 ▸ c0.al (Nat.succ_pos _) _
  replace c1 : Cel a4 (p + 1) _ := ha4 ▸ c1.al (Nat.succ_pos _) _
  replace c2 : Cel a4 (p + 1 + 1) _ := ha4 ▸ c2.al (Nat.succ_pos _) _
  replace c3 : Cel a4 (p + 1 + 1 + 1) _ := ha4 ▸ c3
  have c4 := Cel.new a4 [.slice (some ⟨p, 0, none⟩) 1 1, .slice (some ⟨p + 1 + 1 + 1, 0, none⟩) 1 1, .int .i64 (-1)] 25
  rw [z4] at c4
  have z5 : w1.heap.size = p + 1 + 1 + 1 + 1 + 1 := by rw [← h]; simp [z4]
  replace c0 : Cel w1 p _ := h ▸ c0.al (Nat.succ_pos _) _
  replace c1 : Cel w1 (p + 1) _ := h ▸ c1.al (Nat.succ_pos _) _
  replace c2 : Cel w1 (p + 1 + 1) _ := h ▸ c2.al (Nat.succ_pos _) _
  replace c3 : Cel w1 (p + 1 + 1 + 1) _ := h ▸ c3.al (Nat.succ_pos _) _
  replace c4 : Cel w1 (p + 1 + 1 + 1 + 1) _ := h ▸ c4
  exact ⟨c4, ⟨rd1 c0 (by decide) (by decide), rdF1 c3 (rd1 c1 (by decide) (by decide)) (rd1 c2 (by decide) (by decide)) (by decide) (by decide) (by decide), by decide⟩, z5, hb⟩
set_option maxRecDepth 10000 in
set_option maxHeartbeats 4000000 in
theorem begun_to (X : StSpec) (w : World) : Calls Try.prog 8 #[] w fun e w' => e = .returned (.bool true) ∧ Below w.heap.size w w' := by
  obtain ⟨p, hp⟩ : ∃ p, w.heap.size = p := ⟨_, rfl⟩
  have HP := hid hp
  obtain ⟨ra, hra⟩ : ∃ ra : Addr, ra = ⟨p, 0, none⟩ := ⟨_, rfl⟩
  obtain ⟨rf, hrf⟩ : ∃ rf : Addr, rf = ⟨p + 1 + 1 + 1, 0, none⟩ := ⟨_, rfl⟩
  obtain ⟨b, hb⟩ : ∃ b, p + 1 + 1 + 1 + 1 = b := ⟨_, rfl⟩
  have HBB := hid hb
  have HRA := hid hra
  have HRF := hid hrf
  clear hp hb hra hrf
  go_enter Try.func8, Try.ntmps8
  go_wp2_with fail
  rw [HP.out]
  obtain ⟨w1, hw1⟩ : ∃ w1, (((((w.alloc (.cells #[.int .i64 1, .int .i64 (-5)] 39)).alloc (.cells #[.int .i64 2, .int .i64 0] 39)).alloc (.cells #[.int .i64 1, .int .i64 1] 44)).alloc (.cells #[.int .i64 2, .int .i64 7, .slice (some ⟨p + 1, 0, none⟩) 1 1, .int .i64 0, .slice (some ⟨p + 1 + 1, 0, none⟩) 1 1] 42)).alloc (.cells #[.slice (some ⟨p, 0, none⟩) 1 1, .slice (some ⟨p + 1 + 1 + 1, 0, none⟩) 1 1, .int .i64 (-1)] 25)) = w1 := ⟨_, rfl⟩
  rw [hw1, HBB.out]
  obtain ⟨hcb, hst, hz1, hb1⟩ := S0_at w p HP.out w1 hw1
  rw [HBB.out] at hcb hz1
  have HB1 : Hid (Below p w w1) := hid hb1
  have HST := hid hst
  have HCB := hid hcb
  clear hw1 hst hcb hb1
  refine (X.enc_to (V0 p) S0 w1 HST.out).mono ?_
  rintro e w2 ⟨v, rfl, hown, hb2⟩
  obtain ⟨eo, ec, rfl, hrd⟩ := hown.rd
  have hlen := X.len S0 S0_ok.1
  obtain ⟨n, hn⟩ : ∃ n, (X.enc S0).length = n := ⟨_, rfl⟩
  rw [hn] at hlen hrd ⊢
  have HRD := hid hrd
  have HB2 := hid hb2
  clear hown hrd hb2
  go_wp2_with fail
  refine (X.dec_to eo n ec _ w2 HRD.out (by omega)).mono ?_
  rintro e w3 ⟨Vx, Sx, c, rfl, hd, hr, hb3⟩
  obtain ⟨rfl, rfl⟩ : Sx = S0 ∧ c = 0 := by
    rw [(X.good S0 S0_ok.1 S0_ok.2).2] at hd
    rcases hd with ⟨h1, h2⟩ | ⟨h1, _⟩
    · exact ⟨(Option.some.inj h1).symm, h2⟩
    · cases h1
  obtain ⟨xo, xn, xc, yo, yn, yc⟩ := Vx
  simp only [SV.cells]
  have HX3 := hid hr
  have HB3 := hid hb3
  clear hr hb3 hd HRD hlen
  have hl3 : b < w3.heap.size := by have h1 := HB2.out.size; have h2 := HB3.out.size; omega
  go_wp2_with fail
  obtain ⟨xb, hxb⟩ : ∃ xb, w3.heap.size = xb := ⟨_, rfl⟩
  obtain ⟨w4, hw4⟩ : ∃ w4, w3.alloc (.cells #[.slice xo xn xc, .slice yo yn yc, .int .i64 S0.asks] 25) = w4 := ⟨_, rfl⟩
  have hcx : Cel w4 xb [.slice xo xn xc, .slice yo yn yc, .int .i64 S0.asks] := by rw [← hw4, ← hxb]; exact Cel.new _ _ _
  have hz4 : w4.heap.size = xb + 1 := by rw [← hw4]; simp [hxb]
  have HB4 : Hid (Below w1.heap.size w1 w4) := hid (by rw [← hw4]; exact (HB2.out.trans (HB3.out.mono HB2.out.size)).trans ((Bl.alloc (Bl.refl w3) _).mono (Nat.le_trans HB2.out.size HB3.out.size)))
  have HX4 : Hid (StR ⟨xo, xn, xc, yo, yn, yc⟩ S0 w4) := hid (by rw [← hw4]; exact HX3.out.below (Bl.alloc (Bl.refl w3) _))
  rw [hw4, hxb]
  have HCX := hid hcx
  rw [hxb] at hl3
  clear hw4 hxb hcx HX3 HB2 HB3
  refine (X.dec_to none 0 0 [] w4 (Rd.empty _ _) (by omega)).mono ?_
  rintro e w5 ⟨Vy, Sy, c, rfl, hd, _, hb5⟩
  obtain ⟨rfl, rfl⟩ : Sy = ⟨[], [], 0⟩ ∧ c = 11 := by
    rw [X.nil] at hd
    rcases hd with ⟨h1, _⟩ | ⟨_, h1⟩
    · cases h1
    · exact h1
  obtain ⟨zo, zn, zc, uo, un, uc⟩ := Vy
  simp only [SV.cells]
  have HB5 : Hid (Below w1.heap.size w1 w5) := hid (HB4.out.trans (hb5.mono HB4.out.size))
  have HX5 := hid (HX4.out.below hb5)
  have HCX5 := hid (HCX.out.below (Nat.succ_pos _) hb5)
  have HCB5 := hid (HCB.out.keep (show b < w1.heap.size by omega) HB5.out)
  have hl5 : xb < w5.heap.size := by have := hb5.size; omega
  clear hb5 HX4 HCX hd HB4
  have e0 := HCB5.out.cell 0 _ rfl
  have e1 := HCB5.out.cell 1 _ rfl
  have e2 := HCB5.out.cell 2 _ rfl
  have hl6 : b < w5.heap.size := by omega
  go_wp2_with fail
  obtain ⟨w6, hw6⟩ : ∃ w6, w5.alloc (.cells #[.slice zo zn zc, .slice uo un uc, .int .i64 0] 25) = w6 := ⟨_, rfl⟩
  have hz6 : w6.heap.size = w5.heap.size + 1 := by rw [← hw6]; simp
  have ha6 : Below w5.heap.size w5 w6 := by rw [← hw6]; exact Bl.alloc (Bl.refl _) _
  rw [hw6]
  have HB6 : Hid (Below w1.heap.size w1 w6) := hid (HB5.out.trans (ha6.mono HB5.out.size))
  have HX6 := hid (HX5.out.below ha6)
  have HCX6 := hid (HCX5.out.below (Nat.succ_pos _) ha6)
  clear hw6 ha6 HX5 HCX5 HCB5 HB5 e0 e1 e2
  refine (X.copy_to (V0 p) S0 w6 S0_tame (HST.out.below HB6.out)).mono ?_
  rintro e w7 ⟨Vc, rfl, hbx, hb7⟩
  obtain ⟨co, cn, cc, go, gn, gc⟩ := Vc
  obtain rfl : cn = 1 := hbx.now.v.len.symm
  obtain ⟨cb, coff, hco, x, y, hxy, hk1, hk2⟩ := hbx.now.r.val0 Nat.one_pos
  obtain ⟨rfl, rfl⟩ : x = 1 ∧ y = -5 := by simpa [S0] using hxy.symm
  simp only at hco
  subst hco
  have hblk : w6.heap.size ≤ cb ∧ cb < w7.heap.size := Bx.block (a := ⟨cb, coff, none⟩) hbx fun w' h => by
    obtain ⟨b1, o1, e1, x, y, _, h1, _⟩ := h.r.val0 Nat.one_pos
    simp only at e1
    cases e1
    exact ⟨x, h1⟩
  have huf : w7.frozen? ⟨cb, coff + 1, none⟩ = false := hbx.now.uv cb coff rfl 1 (by show 1 < 1 * 2; decide)
  simp only [SV.cells]
  have HSU : Hid (StU ⟨some ⟨cb, coff, none⟩, 1, cc, go, gn, gc⟩ S0 w7) := hid hbx.now
  have HB7 : Hid (Below w1.heap.size w1 w7) := hid (HB6.out.trans (hb7.mono HB6.out.size))
  have HX7 := hid (HX6.out.below hb7)
  have HCX7 := hid (HCX6.out.below (Nat.succ_pos _) hb7)
  have HCB7 := hid (HCB.out.keep (show b < w1.heap.size by omega) HB7.out)
  have hs7 := hb7.size
  have HB67 := hid hb7
  clear hxy hb7 hbx
  go_upto_region 8 with fail
  obtain ⟨kb, hkb⟩ : ∃ kb, w7.heap.size = kb := ⟨_, rfl⟩
  obtain ⟨w8, hw8⟩ : ∃ w8, w7.setCell ⟨cb, coff + 1, none⟩ (.int .i64 (-4)) = w8 := ⟨_, rfl⟩
  obtain ⟨S2, hS2, hA2⟩ := HSU.out.poke hk2 (x := -4) (by decide)
  have hz8 : w8.heap.size = kb := by rw [← hw8]; simp [hkb]
  have hk3 : w8.cell? ⟨cb, coff + 1, none⟩ = some (.int .i64 (-4)) := by rw [← hw8]; exact World.cell?_setCell_same _ _ _ hk2
  have h68 : Below w6.heap.size w6 w8 := by
    rw [← hw8]
    exact HB67.out.setCell (p := ⟨cb, coff + 1, none⟩) hblk.1 _
  rw [hw8] at hS2
  obtain ⟨w9, hw9⟩ : ∃ w9, w8.alloc (.cells #[.slice (some ⟨cb, coff, none⟩) 1 cc, .slice go gn gc, .int .i64 S0.asks] 25) = w9 := ⟨_, rfl⟩
  have hck9 : Cel w9 kb [.slice (some ⟨cb, coff, none⟩) 1 cc, .slice go gn gc, .int .i64 S0.asks] := by rw [← hw9, ← hz8]; exact Cel.new _ _ _
  have ha9 : Below w8.heap.size w8 w9 := by rw [← hw9]; exact Bl.alloc (Bl.refl _) _
  have hz9 : w9.heap.size = kb + 1 := by rw [← hw9]; simp [hz8]
  have hk4 := (ha9.cell (p := ⟨cb, coff + 1, none⟩) (by show cb < _; omega)).trans hk3
  rw [hw8, hkb, hw9]
  replace hS2 := hS2.below ha9
  have h69 : Below w6.heap.size w6 w9 := h68.trans (ha9.mono h68.size)
  have HB9 : Hid (Below w1.heap.size w1 w9) := hid (HB6.out.trans (h69.mono HB6.out.size))
  have HX9 := hid (HX6.out.below h69)
  have HCX9 := hid (HCX6.out.below (Nat.succ_pos _) h69)
  have HCB9 := hid (HCB.out.keep (show b < w1.heap.size by omega) HB9.out)
  have HCK9 := hid hck9
  have HS9 := hid (HST.out.below HB9.out)
  have HU9 := hid hS2.r
  have HNE : Hid (¬ S2 = S0) := hid (fun e => by
    obtain ⟨b1, o1, e1, x, y, hxy, _, h2⟩ := hS2.r.val0 Nat.one_pos
    simp only at e1
    cases e1
    rw [hk4] at h2
    rw [e] at hxy
    simp [S0] at hxy
    simp [← hxy.2] at h2)
  have hlb : b < w9.heap.size := by have := HB9.out.size; omega
  have hlx : xb < w9.heap.size := by have := h69.size; omega
  have hlk : kb < w9.heap.size := by omega
  clear hw8 hw9 hck9 ha9 hk3 hk4 hS2 h69 h68 HX7 HCX7 HCB7 HX6 HCX6 HB67 hk1 hk2 huf HSU hblk hz8 hz9 hkb hs7
  have HZ2 : Hid (∀ w, StR ⟨none, 0, 0, none, 0, 0⟩ ⟨[], [], -2⟩ w) := hid fun w => ⟨RdG.empty w, RdG.empty w, by decide⟩
  have b0 := HCB9.out.cell 0 _ rfl
  have b1 := HCB9.out.cell 1 _ rfl
  have b2 := HCB9.out.cell 2 _ rfl
  go_wp2_with fail
  refine (X.may_to (V0 p) S0 w9 HS9.out).mono ?_
  rw [S0_ok.2]
  rintro e wa ⟨rfl, hba⟩
  have HBA := hid hba
  clear b0 b1 b2 hba
  go_wp2_with fail
  refine (X.may_to ⟨none, 0, 0, none, 0, 0⟩ ⟨[], [], -2⟩ wa (HZ2.out wa)).mono ?_
  have hm2 : mayS ⟨[], [], -2⟩ = false := by decide
  rw [hm2]
  rintro e wb ⟨rfl, hbb⟩
  have HBB' := hid (HBA.out.trans (hbb.mono HBA.out.size))
  have b0 := (HBB'.out.cell (p := ⟨b, 0, none⟩) hlb).trans (HCB9.out.cell 0 _ rfl)
  have b1 := (HBB'.out.cell (p := ⟨b, 1, none⟩) hlb).trans (HCB9.out.cell 1 _ rfl)
  have b2 := (HBB'.out.cell (p := ⟨b, 2, none⟩) hlb).trans (HCB9.out.cell 2 _ rfl)
  have x0 := (HBB'.out.cell (p := ⟨xb, 0, none⟩) hlx).trans (HCX9.out.cell 0 _ rfl)
  have x1 := (HBB'.out.cell (p := ⟨xb, 1, none⟩) hlx).trans (HCX9.out.cell 1 _ rfl)
  have x2 := (HBB'.out.cell (p := ⟨xb, 2, none⟩) hlx).trans (HCX9.out.cell 2 _ rfl)
  clear hbb HBA
  go_wp2_with fail
  refine (X.eq_to ⟨xo, xn, xc, yo, yn, yc⟩ (V0 p) S0 S0 true wb (by simp) (HX9.out.below HBB'.out) (HS9.out.below HBB'.out)).mono ?_
  rintro e wc ⟨rfl, hbc⟩
  have HBC := hid (HBB'.out.trans (hbc.mono HBB'.out.size))
  clear b0 b1 b2 x0 x1 x2 hbc
  have b0 := (HBC.out.cell (p := ⟨b, 0, none⟩) hlb).trans (HCB9.out.cell 0 _ rfl)
  have b1 := (HBC.out.cell (p := ⟨b, 1, none⟩) hlb).trans (HCB9.out.cell 1 _ rfl)
  have b2 := (HBC.out.cell (p := ⟨b, 2, none⟩) hlb).trans (HCB9.out.cell 2 _ rfl)
  have k0 := (HBC.out.cell (p := ⟨kb, 0, none⟩) hlk).trans (HCK9.out.cell 0 _ rfl)
  have k1 := (HBC.out.cell (p := ⟨kb, 1, none⟩) hlk).trans (HCK9.out.cell 1 _ rfl)
  have k2 := (HBC.out.cell (p := ⟨kb, 2, none⟩) hlk).trans (HCK9.out.cell 2 _ rfl)
  go_wp2_with fail
  rw [← hA2]
  refine (X.eq_to ⟨some ⟨cb, coff, none⟩, 1, cc, go, gn, gc⟩ (V0 p) S2 S0 false wc (by simp [HNE.out]) (HU9.out.below HBC.out) (HS9.out.below HBC.out)).mono ?_
  rintro e wd ⟨rfl, hbd⟩
  have HBD := hid (HBC.out.trans (hbd.mono HBC.out.size))
  clear b0 b1 b2 k0 k1 k2 hbd
  go_wp2_with fail
  go_ret
  exact ⟨rfl, by rw [HP.out]; exact HB1.out.trans ((HB9.out.trans (HBD.out.mono HB9.out.size)).mono (by have := HB1.out.size; rw [HP.out] at this; exact this))⟩
end Go.Proofs.Ytnbegmlbkjjggaa
