/- The program's reader of instructions: an instruction, and Get. -/
import Derived.Test.YtfambbpggodlkaaInsGet
import Derived.BigRegion
namespace Go.Proofs.Ytfambbpggodlkaa
open Go.RowKit

theorem rOne_bd {xs : List Int} {s s' : RS} {v : Int} (hb : Bs xs) (h : rOne xs s = (v, s')) : 0 ≤ v ∧ v ≤ 255 := by
  unfold rOne at h
  have := hb.getD s.at'
  split at h
  · split at h
    · cases h; simp
    · cases h; exact this
  · cases h; simp

/-- A block's first four cells, free to be written. -/
structure Quad (w : World) (q : Nat) (v0 v1 v2 v3 : Value) : Prop where
  c0 : w.cell? ⟨q, 0, none⟩ = some v0
  c1 : w.cell? ⟨q, 1, none⟩ = some v1
  c2 : w.cell? ⟨q, 2, none⟩ = some v2
  c3 : w.cell? ⟨q, 3, none⟩ = some v3
  f0 : w.frozen? ⟨q, 0, none⟩ = false
  f1 : w.frozen? ⟨q, 1, none⟩ = false
  f2 : w.frozen? ⟨q, 2, none⟩ = false
  f3 : w.frozen? ⟨q, 3, none⟩ = false
section
variable {w w' : World} {q p : Nat} {v0 v1 v2 v3 : Value}
theorem Quad.new (w : World) (v0 v1 v2 v3 : Value) (T : TypeId) : Quad (w.alloc (.cells #[v0, v1, v2, v3] T)) w.heap.size v0 v1 v2 v3 := by
  constructor <;> go_simp
theorem Quad.lt (h : Quad w q v0 v1 v2 v3) : q < w.heap.size := World.block_lt_of_cell? w _ h.c0
theorem Quad.below (h : Quad w q v0 v1 v2 v3) (hb : Below w.heap.size w w') : Quad w' q v0 v1 v2 v3 :=
  have hl := h.lt
  ⟨(hb.cell (p := ⟨q, 0, none⟩) hl).trans h.c0, (hb.cell (p := ⟨q, 1, none⟩) hl).trans h.c1, (hb.cell (p := ⟨q, 2, none⟩) hl).trans h.c2, (hb.cell (p := ⟨q, 3, none⟩) hl).trans h.c3,
   (hb.frozen (p := ⟨q, 0, none⟩) hl).trans h.f0, (hb.frozen (p := ⟨q, 1, none⟩) hl).trans h.f1, (hb.frozen (p := ⟨q, 2, none⟩) hl).trans h.f2, (hb.frozen (p := ⟨q, 3, none⟩) hl).trans h.f3⟩
theorem Quad.mv (h : Quad w q v0 v1 v2 v3) (hm : Mv p w w') (hq : q ≠ p) : Quad w' q v0 v1 v2 v3 :=
  have hl := h.lt
  ⟨hm.cell hq h.c0, hm.cell hq h.c1, hm.cell hq h.c2, hm.cell hq h.c3, (hm.frozen hq hl).trans h.f0, (hm.frozen hq hl).trans h.f1, (hm.frozen hq hl).trans h.f2, (hm.frozen hq hl).trans h.f3⟩
theorem Quad.set1 (h : Quad w q v0 v1 v2 v3) (u : Value) : Quad (w.setCell ⟨q, 1, none⟩ u) q v0 u v2 v3 := by
  obtain ⟨c0, c1, c2, c3, f0, f1, f2, f3⟩ := h
  constructor <;> go_simp
theorem Quad.set2 (h : Quad w q v0 v1 v2 v3) (u : Value) : Quad (w.setCell ⟨q, 2, none⟩ u) q v0 v1 u v3 := by
  obtain ⟨c0, c1, c2, c3, f0, f1, f2, f3⟩ := h
  constructor <;> go_simp
theorem Quad.set3 (h : Quad w q v0 v1 v2 v3) (u : Value) : Quad (w.setCell ⟨q, 3, none⟩ u) q v0 v1 v2 u := by
  obtain ⟨c0, c1, c2, c3, f0, f1, f2, f3⟩ := h
  constructor <;> go_simp
theorem Quad.setAll (h : Quad w q v0 v1 v2 v3) (u0 u1 u2 u3 : Value) : Quad ((((w.setCell ⟨q, 0, none⟩ u0).setCell ⟨q, 1, none⟩ u1).setCell ⟨q, 2, none⟩ u2).setCell ⟨q, 3, none⟩ u3) q u0 u1 u2 u3 := by
  obtain ⟨c0, c1, c2, c3, f0, f1, f2, f3⟩ := h
  constructor <;> go_simp
theorem Quad.other (h : Quad w q v0 v1 v2 v3) (hq : q ≠ p) (o : Nat) (u : Value) : Quad (w.setCell ⟨p, o, none⟩ u) q v0 v1 v2 v3 := h.mv (Mv.set p o w u) hq
end

/-- A block written does not concern a reader elsewhere. -/
theorem Rdr.other {wB w : World} {p q : Nat} {ao : Option Addr} {n cap : Nat} {xs : List Int} {s : RS} (h : Rdr wB w p ao n cap xs s) (hq : p ≠ q) (hB : wB.heap.size ≤ q) (o : Nat) (u : Value) : Rdr wB (w.setCell ⟨q, o, none⟩ u) p ao n cap xs s :=
  have m := Mv.set q o w u
  ⟨h.base.trans (m.below hB h.base.size), h.hp, h.rd, m.cell hq h.c0, m.cell hq h.c1, m.cell hq h.c2, (m.frozen hq h.lt).trans h.f1, (m.frozen hq h.lt).trans h.f2, h.le⟩
theorem Mv.other {p q : Nat} {w w1 : World} (h : Mv p w w1) (hq : w.heap.size ≤ q) (o : Nat) (u : Value) : Mv p w (w1.setCell ⟨q, o, none⟩ u) :=
  h.then ((Mv.set q o w1 u).below hq h.size) (Nat.le_refl _)

theorem Own.rdAt {E : TypeId} {k : IntKind} {base : Nat} {w : World} {lo : Option Addr} {n lc : Nat} {xs : List Int} (h : Own E k base w (.slice lo n lc) xs) : Rd k w lo n lc xs := by
  obtain ⟨ao, cap, e, hr⟩ := h.rd
  cases e
  exact hr
/-- How it stands in the middle of instr: the reader, the result's block (the first new one), the instruction's block X. -/
structure St (wB w wx : World) (p : Nat) (ao : Option Addr) (n cap : Nat) (xs : List Int) (X : Nat) (s : RS) (op a b : Int) (lo : Option Addr) (ln lc : Nat) : Prop where
  r : Rdr wB wx p ao n cap xs s
  m : Mv p w wx
  qa : Quad wx w.heap.size (.int .i64 0) (.int .i64 0) (.int .i64 0) (.slice none 0 0)
  qx : Quad wx X (.int .i64 op) (.int .i64 a) (.int .i64 b) (.slice lo ln lc)
  hx : w.heap.size < X
  hp : p < w.heap.size
section
variable {wB w wx wy : World} {p : Nat} {ao : Option Addr} {n cap : Nat} {xs : List Int} {X : Nat} {s s' : RS} {op a b : Int} {lo : Option Addr} {ln lc : Nat}
theorem St.go (h : St wB w wx p ao n cap xs X s op a b lo ln lc) (g : RetN wB p ao n cap xs wx s' wy) : St wB w wy p ao n cap xs X s' op a b lo ln lc :=
  ⟨g.1, h.m.trans g.2, h.qa.mv g.2 (by have := h.hp; omega), h.qx.mv g.2 (by have := h.hp; have := h.hx; omega), h.hx, h.hp⟩
theorem St.hB (h : St wB w wx p ao n cap xs X s op a b lo ln lc) : wB.heap.size ≤ X := by have := h.hx; have := h.hp; have := h.r.hp; omega
theorem St.set1 (h : St wB w wx p ao n cap xs X s op a b lo ln lc) (u : Int) : St wB w (wx.setCell ⟨X, 1, none⟩ (.int .i64 u)) p ao n cap xs X s op u b lo ln lc :=
  ⟨h.r.other (by have := h.hx; have := h.hp; omega) h.hB 1 _, h.m.other (by have := h.hx; omega) 1 _, h.qa.other (by have := h.hx; omega) 1 _, h.qx.set1 _, h.hx, h.hp⟩
theorem St.set2 (h : St wB w wx p ao n cap xs X s op a b lo ln lc) (u : Int) : St wB w (wx.setCell ⟨X, 2, none⟩ (.int .i64 u)) p ao n cap xs X s op a u lo ln lc :=
  ⟨h.r.other (by have := h.hx; have := h.hp; omega) h.hB 2 _, h.m.other (by have := h.hx; omega) 2 _, h.qa.other (by have := h.hx; omega) 2 _, h.qx.set2 _, h.hx, h.hp⟩
theorem St.set3 (h : St wB w wx p ao n cap xs X s op a b lo ln lc) (lo' : Option Addr) (ln' lc' : Nat) : St wB w (wx.setCell ⟨X, 3, none⟩ (.slice lo' ln' lc')) p ao n cap xs X s op a b lo' ln' lc' :=
  ⟨h.r.other (by have := h.hx; have := h.hp; omega) h.hB 3 _, h.m.other (by have := h.hx; omega) 3 _, h.qa.other (by have := h.hx; omega) 3 _, h.qx.set3 _, h.hx, h.hp⟩
theorem St.fin0 (h : St wB w wx p ao n cap xs X s op a b lo ln lc) :
    RetN wB p ao n cap xs w s ((((wx.setCell ⟨w.heap.size, 0, none⟩ (.int .i64 op)).setCell ⟨w.heap.size, 1, none⟩ (.int .i64 a)).setCell ⟨w.heap.size, 2, none⟩ (.int .i64 b)).setCell ⟨w.heap.size, 3, none⟩ (.slice lo ln lc)) ∧
    Quad ((((wx.setCell ⟨w.heap.size, 0, none⟩ (.int .i64 op)).setCell ⟨w.heap.size, 1, none⟩ (.int .i64 a)).setCell ⟨w.heap.size, 2, none⟩ (.int .i64 b)).setCell ⟨w.heap.size, 3, none⟩ (.slice lo ln lc)) w.heap.size (.int .i64 op) (.int .i64 a) (.int .i64 b) (.slice lo ln lc) :=
  have e : p ≠ w.heap.size := by have := h.hp; omega
  have g : wB.heap.size ≤ w.heap.size := by have := h.hp; have := h.r.hp; omega
  ⟨⟨(((h.r.other e g 0 _).other e g 1 _).other e g 2 _).other e g 3 _, (((h.m.other (Nat.le_refl _) 0 _).other (Nat.le_refl _) 1 _).other (Nat.le_refl _) 2 _).other (Nat.le_refl _) 3 _⟩, h.qa.setAll _ _ _ _⟩
theorem St.fin (h : St wB w wx p ao n cap xs X s op a b lo ln lc) :
    ∃ wf, ((((wx.setCell ⟨w.heap.size, 0, none⟩ (.int .i64 op)).setCell ⟨w.heap.size, 1, none⟩ (.int .i64 a)).setCell ⟨w.heap.size, 2, none⟩ (.int .i64 b)).setCell ⟨w.heap.size, 3, none⟩ (.slice lo ln lc)) = wf ∧ RetN wB p ao n cap xs w s wf ∧
    Quad wf w.heap.size (.int .i64 op) (.int .i64 a) (.int .i64 b) (.slice lo ln lc) := ⟨_, rfl, h.fin0.1, h.fin0.2⟩
end

/-- What instr leaves. -/
def RetI (wB : World) (p : Nat) (ao : Option Addr) (n cap : Nat) (xs : List Int) (w : World) (I : Ins) (s' : RS) (e : Ending) (w' : World) : Prop :=
  (∃ lo ln lc, e = .returned (iv I.op I.a I.b lo ln lc) ∧ Own 3 .i64 w.heap.size w' (.slice lo ln lc) I.l) ∧ RetN wB p ao n cap xs w s' w'

set_option maxHeartbeats 1000000 in
theorem instr_1 (wB w : World) (p : Nat) (ao : Option Addr) (n cap : Nat) (xs : List Int) (s : RS) (h : Rdr wB w p ao n cap xs s) (op : Int) (s1 : RS) (h1 : rOne xs s = (op, s1)) (hs : sh op = 1)  :
    Calls Try.prog 57 #[.pointer (some ⟨p, 0, none⟩)] w (RetI wB p ao n cap xs w ⟨op, 0, 0, []⟩ s1) := by
  have hop : 0 ≤ op ∧ op ≤ 255 := rOne_bd (fun x hx => bounds_u8 (h.rd.wf x hx)) h1
  have hpl := h.lt
  have H := hid (h.below (Bl.alloc (Bl.refl w) (.cells #[.int .i64 0, .int .i64 0, .int .i64 0, .slice none 0 0] 39)))
  have H1 := hid h1
  have Hs := hid hs
  clear h h1 hs
  go_enter Try.func57, Try.ntmps57
  go_wp2_with fail
  refine (one_to wB _ p ao n cap xs s H.out op s1 H1.out).mono ?_
  rintro e w1 ⟨rfl, R1, M1⟩
  have hsz1 : w.heap.size < w1.heap.size := by have := M1.size; simp at this; omega
  have HSa : Hid (St wB w (w1.alloc (.cells #[.int .i64 op, .int .i64 0, .int .i64 0, .slice none 0 0] 39)) p ao n cap xs w1.heap.size s1 op 0 0 none 0 0) :=
    ⟨R1.below (Bl.alloc (Bl.refl _) _), ((Mv.of (Bl.alloc (Bl.refl w) _)).trans M1).trans (Mv.of (Bl.alloc (Bl.refl _) _)), ((Quad.new w _ _ _ _ _).mv M1 (by omega)).below (Bl.alloc (Bl.refl _) _), Quad.new w1 _ _ _ _ _, hsz1, hpl⟩
  clear R1 M1
  go_wp2_with fail
  refine (shape_to _ _ Hs.out _).mono ?_
  rintro e w2 ⟨rfl, hb⟩
  have HS0 := hid (HSa.out.go (s' := s1) ⟨HSa.out.r.below hb, Mv.of hb⟩)
  obtain ⟨X, hX⟩ : ∃ X, X = w1.heap.size := ⟨_, rfl⟩
  rw [← hX] at HS0 ⊢
  clear hb HSa hX
  obtain ⟨c0, c1, c2, c3, f0, f1, f2, f3⟩ := HS0.out.qx
  obtain ⟨a0, a1, a2, a3, g0, g1, g2, g3⟩ := HS0.out.qa
  have hAX := HS0.out.hx
  go_wp2_with fail
  obtain ⟨wf, hwf, hret, ⟨q0, q1, q2, q3, _, _, _, _⟩⟩ := HS0.out.fin
  rw [hwf]
  clear hwf
  refine bodyPost_ret (v := iv op 0 0 none 0 0) (by simp [results, Try.results57, go_sem, q0, q1, q2, q3]) rfl ⟨⟨_, _, _, rfl, Own.nil _ _ _ _⟩, hret⟩

set_option maxHeartbeats 1000000 in
theorem instr_2 (wB w : World) (p : Nat) (ao : Option Addr) (n cap : Nat) (xs : List Int) (s : RS) (h : Rdr wB w p ao n cap xs s) (op : Int) (s1 : RS) (h1 : rOne xs s = (op, s1)) (hs : sh op = 2) (a : Int) (s2 : RS) (h2 : rRes xs s1 = (a, s2)) :
    Calls Try.prog 57 #[.pointer (some ⟨p, 0, none⟩)] w (RetI wB p ao n cap xs w ⟨op, a, 0, []⟩ s2) := by
  have hop : 0 ≤ op ∧ op ≤ 255 := rOne_bd (fun x hx => bounds_u8 (h.rd.wf x hx)) h1
  have hpl := h.lt
  have H := hid (h.below (Bl.alloc (Bl.refl w) (.cells #[.int .i64 0, .int .i64 0, .int .i64 0, .slice none 0 0] 39)))
  have H1 := hid h1
  have Hs := hid hs
  have H2 := hid h2
  clear h2
  clear h h1 hs
  go_enter Try.func57, Try.ntmps57
  go_wp2_with fail
  refine (one_to wB _ p ao n cap xs s H.out op s1 H1.out).mono ?_
  rintro e w1 ⟨rfl, R1, M1⟩
  have hsz1 : w.heap.size < w1.heap.size := by have := M1.size; simp at this; omega
  have HSa : Hid (St wB w (w1.alloc (.cells #[.int .i64 op, .int .i64 0, .int .i64 0, .slice none 0 0] 39)) p ao n cap xs w1.heap.size s1 op 0 0 none 0 0) :=
    ⟨R1.below (Bl.alloc (Bl.refl _) _), ((Mv.of (Bl.alloc (Bl.refl w) _)).trans M1).trans (Mv.of (Bl.alloc (Bl.refl _) _)), ((Quad.new w _ _ _ _ _).mv M1 (by omega)).below (Bl.alloc (Bl.refl _) _), Quad.new w1 _ _ _ _ _, hsz1, hpl⟩
  clear R1 M1
  go_wp2_with fail
  refine (shape_to _ _ Hs.out _).mono ?_
  rintro e w2 ⟨rfl, hb⟩
  have HS0 := hid (HSa.out.go (s' := s1) ⟨HSa.out.r.below hb, Mv.of hb⟩)
  obtain ⟨X, hX⟩ : ∃ X, X = w1.heap.size := ⟨_, rfl⟩
  rw [← hX] at HS0 ⊢
  clear hb HSa hX
  obtain ⟨c0, c1, c2, c3, f0, f1, f2, f3⟩ := HS0.out.qx
  obtain ⟨a0, a1, a2, a3, g0, g1, g2, g3⟩ := HS0.out.qa
  have hAX := HS0.out.hx
  go_wp2_with fail
  refine (result_to wB _ p ao n cap xs _ HS0.out.r a s2 H2.out).mono ?_
  rintro e w3 ⟨rfl, R, M⟩
  have HT1 := hid (HS0.out.go ⟨R, M⟩)
  have HS1 := hid (HT1.out.set1 a)
  clear R M c0 c1 c2 c3 f0 f1 f2 f3 a0 a1 a2 a3 g0 g1 g2 g3
  obtain ⟨c0, c1, c2, c3, f0, f1, f2, f3⟩ := HT1.out.qx
  obtain ⟨a0, a1, a2, a3, g0, g1, g2, g3⟩ := HT1.out.qa
  go_wp2_with fail
  obtain ⟨wf, hwf, hret, ⟨q0, q1, q2, q3, _, _, _, _⟩⟩ := HS1.out.fin
  rw [hwf]
  clear hwf
  refine bodyPost_ret (v := iv op a 0 none 0 0) (by simp [results, Try.results57, go_sem, q0, q1, q2, q3]) rfl ⟨⟨_, _, _, rfl, Own.nil _ _ _ _⟩, hret⟩

set_option maxHeartbeats 1000000 in
theorem instr_4 (wB w : World) (p : Nat) (ao : Option Addr) (n cap : Nat) (xs : List Int) (s : RS) (h : Rdr wB w p ao n cap xs s) (op : Int) (s1 : RS) (h1 : rOne xs s = (op, s1)) (hs : sh op = 4) (l : List Int) (s2 : RS) (h2 : rL xs s1 = (l, s2)) (a : Int) (s3 : RS) (h3 : rA 4 xs s2 = (a, s3)) :
    Calls Try.prog 57 #[.pointer (some ⟨p, 0, none⟩)] w (RetI wB p ao n cap xs w ⟨op, a, 0, l⟩ s3) := by
  have hop : 0 ≤ op ∧ op ≤ 255 := rOne_bd (fun x hx => bounds_u8 (h.rd.wf x hx)) h1
  have hpl := h.lt
  have H := hid (h.below (Bl.alloc (Bl.refl w) (.cells #[.int .i64 0, .int .i64 0, .int .i64 0, .slice none 0 0] 39)))
  have H1 := hid h1
  have Hs := hid hs
  have H2 := hid h2
  have H3 := hid h3
  clear h2 h3
  clear h h1 hs
  go_enter Try.func57, Try.ntmps57
  go_wp2_with fail
  refine (one_to wB _ p ao n cap xs s H.out op s1 H1.out).mono ?_
  rintro e w1 ⟨rfl, R1, M1⟩
  have hsz1 : w.heap.size < w1.heap.size := by have := M1.size; simp at this; omega
  have HSa : Hid (St wB w (w1.alloc (.cells #[.int .i64 op, .int .i64 0, .int .i64 0, .slice none 0 0] 39)) p ao n cap xs w1.heap.size s1 op 0 0 none 0 0) :=
    ⟨R1.below (Bl.alloc (Bl.refl _) _), ((Mv.of (Bl.alloc (Bl.refl w) _)).trans M1).trans (Mv.of (Bl.alloc (Bl.refl _) _)), ((Quad.new w _ _ _ _ _).mv M1 (by omega)).below (Bl.alloc (Bl.refl _) _), Quad.new w1 _ _ _ _ _, hsz1, hpl⟩
  clear R1 M1
  go_wp2_with fail
  refine (shape_to _ _ Hs.out _).mono ?_
  rintro e w2 ⟨rfl, hb⟩
  have HS0 := hid (HSa.out.go (s' := s1) ⟨HSa.out.r.below hb, Mv.of hb⟩)
  obtain ⟨X, hX⟩ : ∃ X, X = w1.heap.size := ⟨_, rfl⟩
  rw [← hX] at HS0 ⊢
  clear hb HSa hX
  obtain ⟨c0, c1, c2, c3, f0, f1, f2, f3⟩ := HS0.out.qx
  obtain ⟨a0, a1, a2, a3, g0, g1, g2, g3⟩ := HS0.out.qa
  have hAX := HS0.out.hx
  go_wp2_with fail
  refine (rlist_to wB _ p ao n cap xs _ HS0.out.r l s2 H2.out).mono ?_
  rintro e w3 ⟨⟨v, rfl, hown⟩, R, M⟩
  obtain ⟨lo, lc, rfl, hlr⟩ := hown.rd
  have HT1 := hid (HS0.out.go ⟨R, M⟩)
  have HS1 := hid (HT1.out.set3 lo l.length lc)
  have hXB := HS0.out.qx.lt
  have hpB := HS0.out.r.lt
  have HMz := hid HS0.out.m.size
  have HO := hid (hown.mv (Mv.set X 3 w3 (.slice lo l.length lc)) hXB)
  clear hlr hown
  clear R M c0 c1 c2 c3 f0 f1 f2 f3 a0 a1 a2 a3 g0 g1 g2 g3
  obtain ⟨c0, c1, c2, c3, f0, f1, f2, f3⟩ := HT1.out.qx
  obtain ⟨a0, a1, a2, a3, g0, g1, g2, g3⟩ := HT1.out.qa
  go_wp2_with fail
  refine (operand_to wB _ p ao n cap xs _ HS1.out.r 4 (by omega) a s3 H3.out).mono ?_
  rintro e w4 ⟨rfl, R, M⟩
  have HT2 := hid (HS1.out.go ⟨R, M⟩)
  have HS2 := hid (HT2.out.set1 a)
  have HO := hid ((HO.out.mv M hpB).mv (Mv.set X 1 w4 (.int .i64 a)) hXB)
  clear R M c0 c1 c2 c3 f0 f1 f2 f3 a0 a1 a2 a3 g0 g1 g2 g3
  obtain ⟨c0, c1, c2, c3, f0, f1, f2, f3⟩ := HT2.out.qx
  obtain ⟨a0, a1, a2, a3, g0, g1, g2, g3⟩ := HT2.out.qa
  go_wp2_with fail
  obtain ⟨wf, hwf, hret, ⟨q0, q1, q2, q3, _, _, _, _⟩⟩ := HS2.out.fin
  rw [hwf]
  have HOf : Hid (Own 3 .i64 _ wf (.slice lo l.length lc) l) := hid (by rw [← hwf]; exact ((((HO.out.mv (Mv.set _ 0 _ _) (by omega)).mv (Mv.set _ 1 _ _) (by omega)).mv (Mv.set _ 2 _ _) (by omega)).mv (Mv.set _ 3 _ _) (by omega)))
  clear hwf
  refine bodyPost_ret (v := iv op a 0 lo l.length lc) (by simp [results, Try.results57, go_sem, q0, q1, q2, q3]) rfl ⟨⟨_, _, _, rfl, HOf.out.lift HMz.out⟩, hret⟩

set_option maxHeartbeats 1000000 in
theorem instr_5 (wB w : World) (p : Nat) (ao : Option Addr) (n cap : Nat) (xs : List Int) (s : RS) (h : Rdr wB w p ao n cap xs s) (op : Int) (s1 : RS) (h1 : rOne xs s = (op, s1)) (hs : sh op = 5) (a : Int) (s2 : RS) (h2 : rA 5 xs s1 = (a, s2)) (x : Int) (s3 : RS) (h3 : rOne xs s2 = (x, s3)) (s4 : RS) (h4 : need (x == 0) s3 = s4) :
    Calls Try.prog 57 #[.pointer (some ⟨p, 0, none⟩)] w (RetI wB p ao n cap xs w ⟨op, a, 0, []⟩ s4) := by
  have hop : 0 ≤ op ∧ op ≤ 255 := rOne_bd (fun x hx => bounds_u8 (h.rd.wf x hx)) h1
  have hpl := h.lt
  have H := hid (h.below (Bl.alloc (Bl.refl w) (.cells #[.int .i64 0, .int .i64 0, .int .i64 0, .slice none 0 0] 39)))
  have H1 := hid h1
  have Hs := hid hs
  have H2 := hid h2
  have H3 := hid h3
  have H4 := hid h4
  clear h2 h3 h4
  clear h h1 hs
  go_enter Try.func57, Try.ntmps57
  go_wp2_with fail
  refine (one_to wB _ p ao n cap xs s H.out op s1 H1.out).mono ?_
  rintro e w1 ⟨rfl, R1, M1⟩
  have hsz1 : w.heap.size < w1.heap.size := by have := M1.size; simp at this; omega
  have HSa : Hid (St wB w (w1.alloc (.cells #[.int .i64 op, .int .i64 0, .int .i64 0, .slice none 0 0] 39)) p ao n cap xs w1.heap.size s1 op 0 0 none 0 0) :=
    ⟨R1.below (Bl.alloc (Bl.refl _) _), ((Mv.of (Bl.alloc (Bl.refl w) _)).trans M1).trans (Mv.of (Bl.alloc (Bl.refl _) _)), ((Quad.new w _ _ _ _ _).mv M1 (by omega)).below (Bl.alloc (Bl.refl _) _), Quad.new w1 _ _ _ _ _, hsz1, hpl⟩
  clear R1 M1
  go_wp2_with fail
  refine (shape_to _ _ Hs.out _).mono ?_
  rintro e w2 ⟨rfl, hb⟩
  have HS0 := hid (HSa.out.go (s' := s1) ⟨HSa.out.r.below hb, Mv.of hb⟩)
  obtain ⟨X, hX⟩ : ∃ X, X = w1.heap.size := ⟨_, rfl⟩
  rw [← hX] at HS0 ⊢
  clear hb HSa hX
  obtain ⟨c0, c1, c2, c3, f0, f1, f2, f3⟩ := HS0.out.qx
  obtain ⟨a0, a1, a2, a3, g0, g1, g2, g3⟩ := HS0.out.qa
  have hAX := HS0.out.hx
  go_wp2_with fail
  refine (operand_to wB _ p ao n cap xs _ HS0.out.r 5 (by omega) a s2 H2.out).mono ?_
  rintro e w3 ⟨rfl, R, M⟩
  have HT1 := hid (HS0.out.go ⟨R, M⟩)
  have HS1 := hid (HT1.out.set1 a)
  clear R M c0 c1 c2 c3 f0 f1 f2 f3 a0 a1 a2 a3 g0 g1 g2 g3
  obtain ⟨c0, c1, c2, c3, f0, f1, f2, f3⟩ := HT1.out.qx
  obtain ⟨a0, a1, a2, a3, g0, g1, g2, g3⟩ := HT1.out.qa
  go_wp2_with fail
  refine (one_to wB _ p ao n cap xs _ HS1.out.r x s3 H3.out).mono ?_
  rintro e w4 ⟨rfl, R, M⟩
  have HS2 := hid (HS1.out.go ⟨R, M⟩)
  clear R M c0 c1 c2 c3 f0 f1 f2 f3 a0 a1 a2 a3 g0 g1 g2 g3
  obtain ⟨c0, c1, c2, c3, f0, f1, f2, f3⟩ := HS2.out.qx
  obtain ⟨a0, a1, a2, a3, g0, g1, g2, g3⟩ := HS2.out.qa
  go_wp2_with fail
  refine (need_to wB _ p ao n cap xs _ HS2.out.r (x == 0) s4 H4.out).mono ?_
  rintro e w5 ⟨rfl, R, M⟩
  have HS3 := hid (HS2.out.go ⟨R, M⟩)
  clear R M c0 c1 c2 c3 f0 f1 f2 f3 a0 a1 a2 a3 g0 g1 g2 g3
  obtain ⟨c0, c1, c2, c3, f0, f1, f2, f3⟩ := HS3.out.qx
  obtain ⟨a0, a1, a2, a3, g0, g1, g2, g3⟩ := HS3.out.qa
  go_wp2_with fail
  obtain ⟨wf, hwf, hret, ⟨q0, q1, q2, q3, _, _, _, _⟩⟩ := HS3.out.fin
  rw [hwf]
  clear hwf
  refine bodyPost_ret (v := iv op a 0 none 0 0) (by simp [results, Try.results57, go_sem, q0, q1, q2, q3]) rfl ⟨⟨_, _, _, rfl, Own.nil _ _ _ _⟩, hret⟩

set_option maxHeartbeats 1000000 in
theorem instr_7 (wB w : World) (p : Nat) (ao : Option Addr) (n cap : Nat) (xs : List Int) (s : RS) (h : Rdr wB w p ao n cap xs s) (op : Int) (s1 : RS) (h1 : rOne xs s = (op, s1)) (hs : sh op = 7) (x : Int) (s3 : RS) (h3 : rOne xs s1 = (x, s3)) (s4 : RS) (h4 : need (x == 0) s3 = s4) :
    Calls Try.prog 57 #[.pointer (some ⟨p, 0, none⟩)] w (RetI wB p ao n cap xs w ⟨op, 0, 0, []⟩ s4) := by
  have hop : 0 ≤ op ∧ op ≤ 255 := rOne_bd (fun x hx => bounds_u8 (h.rd.wf x hx)) h1
  have hpl := h.lt
  have H := hid (h.below (Bl.alloc (Bl.refl w) (.cells #[.int .i64 0, .int .i64 0, .int .i64 0, .slice none 0 0] 39)))
  have H1 := hid h1
  have Hs := hid hs
  have H3 := hid h3
  have H4 := hid h4
  clear h3 h4
  clear h h1 hs
  go_enter Try.func57, Try.ntmps57
  go_wp2_with fail
  refine (one_to wB _ p ao n cap xs s H.out op s1 H1.out).mono ?_
  rintro e w1 ⟨rfl, R1, M1⟩
  have hsz1 : w.heap.size < w1.heap.size := by have := M1.size; simp at this; omega
  have HSa : Hid (St wB w (w1.alloc (.cells #[.int .i64 op, .int .i64 0, .int .i64 0, .slice none 0 0] 39)) p ao n cap xs w1.heap.size s1 op 0 0 none 0 0) :=
    ⟨R1.below (Bl.alloc (Bl.refl _) _), ((Mv.of (Bl.alloc (Bl.refl w) _)).trans M1).trans (Mv.of (Bl.alloc (Bl.refl _) _)), ((Quad.new w _ _ _ _ _).mv M1 (by omega)).below (Bl.alloc (Bl.refl _) _), Quad.new w1 _ _ _ _ _, hsz1, hpl⟩
  clear R1 M1
  go_wp2_with fail
  refine (shape_to _ _ Hs.out _).mono ?_
  rintro e w2 ⟨rfl, hb⟩
  have HS0 := hid (HSa.out.go (s' := s1) ⟨HSa.out.r.below hb, Mv.of hb⟩)
  obtain ⟨X, hX⟩ : ∃ X, X = w1.heap.size := ⟨_, rfl⟩
  rw [← hX] at HS0 ⊢
  clear hb HSa hX
  obtain ⟨c0, c1, c2, c3, f0, f1, f2, f3⟩ := HS0.out.qx
  obtain ⟨a0, a1, a2, a3, g0, g1, g2, g3⟩ := HS0.out.qa
  have hAX := HS0.out.hx
  go_wp2_with fail
  refine (one_to wB _ p ao n cap xs _ HS0.out.r x s3 H3.out).mono ?_
  rintro e w3 ⟨rfl, R, M⟩
  have HS1 := hid (HS0.out.go ⟨R, M⟩)
  clear R M c0 c1 c2 c3 f0 f1 f2 f3 a0 a1 a2 a3 g0 g1 g2 g3
  obtain ⟨c0, c1, c2, c3, f0, f1, f2, f3⟩ := HS1.out.qx
  obtain ⟨a0, a1, a2, a3, g0, g1, g2, g3⟩ := HS1.out.qa
  go_wp2_with fail
  refine (need_to wB _ p ao n cap xs _ HS1.out.r (x == 0) s4 H4.out).mono ?_
  rintro e w4 ⟨rfl, R, M⟩
  have HS2 := hid (HS1.out.go ⟨R, M⟩)
  clear R M c0 c1 c2 c3 f0 f1 f2 f3 a0 a1 a2 a3 g0 g1 g2 g3
  obtain ⟨c0, c1, c2, c3, f0, f1, f2, f3⟩ := HS2.out.qx
  obtain ⟨a0, a1, a2, a3, g0, g1, g2, g3⟩ := HS2.out.qa
  go_wp2_with fail
  obtain ⟨wf, hwf, hret, ⟨q0, q1, q2, q3, _, _, _, _⟩⟩ := HS2.out.fin
  rw [hwf]
  clear hwf
  refine bodyPost_ret (v := iv op 0 0 none 0 0) (by simp [results, Try.results57, go_sem, q0, q1, q2, q3]) rfl ⟨⟨_, _, _, rfl, Own.nil _ _ _ _⟩, hret⟩

set_option maxHeartbeats 1000000 in
theorem instr_0 (wB w : World) (p : Nat) (ao : Option Addr) (n cap : Nat) (xs : List Int) (s : RS) (h : Rdr wB w p ao n cap xs s) (op : Int) (s1 : RS) (h1 : rOne xs s = (op, s1)) (hs : sh op = 0) (s2 : RS) (h2 : need false s1 = s2) :
    Calls Try.prog 57 #[.pointer (some ⟨p, 0, none⟩)] w (RetI wB p ao n cap xs w ⟨op, 0, 0, []⟩ s2) := by
  have hop : 0 ≤ op ∧ op ≤ 255 := rOne_bd (fun x hx => bounds_u8 (h.rd.wf x hx)) h1
  have hpl := h.lt
  have H := hid (h.below (Bl.alloc (Bl.refl w) (.cells #[.int .i64 0, .int .i64 0, .int .i64 0, .slice none 0 0] 39)))
  have H1 := hid h1
  have Hs := hid hs
  have H2 := hid h2
  clear h2
  clear h h1 hs
  go_enter Try.func57, Try.ntmps57
  go_wp2_with fail
  refine (one_to wB _ p ao n cap xs s H.out op s1 H1.out).mono ?_
  rintro e w1 ⟨rfl, R1, M1⟩
  have hsz1 : w.heap.size < w1.heap.size := by have := M1.size; simp at this; omega
  have HSa : Hid (St wB w (w1.alloc (.cells #[.int .i64 op, .int .i64 0, .int .i64 0, .slice none 0 0] 39)) p ao n cap xs w1.heap.size s1 op 0 0 none 0 0) :=
    ⟨R1.below (Bl.alloc (Bl.refl _) _), ((Mv.of (Bl.alloc (Bl.refl w) _)).trans M1).trans (Mv.of (Bl.alloc (Bl.refl _) _)), ((Quad.new w _ _ _ _ _).mv M1 (by omega)).below (Bl.alloc (Bl.refl _) _), Quad.new w1 _ _ _ _ _, hsz1, hpl⟩
  clear R1 M1
  go_wp2_with fail
  refine (shape_to _ _ Hs.out _).mono ?_
  rintro e w2 ⟨rfl, hb⟩
  have HS0 := hid (HSa.out.go (s' := s1) ⟨HSa.out.r.below hb, Mv.of hb⟩)
  obtain ⟨X, hX⟩ : ∃ X, X = w1.heap.size := ⟨_, rfl⟩
  rw [← hX] at HS0 ⊢
  clear hb HSa hX
  obtain ⟨c0, c1, c2, c3, f0, f1, f2, f3⟩ := HS0.out.qx
  obtain ⟨a0, a1, a2, a3, g0, g1, g2, g3⟩ := HS0.out.qa
  have hAX := HS0.out.hx
  go_wp2_with fail
  refine (need_to wB _ p ao n cap xs _ HS0.out.r false s2 H2.out).mono ?_
  rintro e w3 ⟨rfl, R, M⟩
  have HS1 := hid (HS0.out.go ⟨R, M⟩)
  clear R M c0 c1 c2 c3 f0 f1 f2 f3 a0 a1 a2 a3 g0 g1 g2 g3
  obtain ⟨c0, c1, c2, c3, f0, f1, f2, f3⟩ := HS1.out.qx
  obtain ⟨a0, a1, a2, a3, g0, g1, g2, g3⟩ := HS1.out.qa
  go_wp2_with fail
  obtain ⟨wf, hwf, hret, ⟨q0, q1, q2, q3, _, _, _, _⟩⟩ := HS1.out.fin
  rw [hwf]
  clear hwf
  refine bodyPost_ret (v := iv op 0 0 none 0 0) (by simp [results, Try.results57, go_sem, q0, q1, q2, q3]) rfl ⟨⟨_, _, _, rfl, Own.nil _ _ _ _⟩, hret⟩

set_option maxHeartbeats 1000000 in
theorem instr_6 (wB w : World) (p : Nat) (ao : Option Addr) (n cap : Nat) (xs : List Int) (s : RS) (h : Rdr wB w p ao n cap xs s) (op : Int) (s1 : RS) (h1 : rOne xs s = (op, s1)) (hs : sh op = 6) (a : Int) (s2 : RS) (h2 : rA 6 xs s1 = (a, s2)) (b : Int) (s3 : RS) (h3 : rU xs s2 = (b, s3)) :
    Calls Try.prog 57 #[.pointer (some ⟨p, 0, none⟩)] w (RetI wB p ao n cap xs w ⟨op, a, b, []⟩ s3) := by
  have hop : 0 ≤ op ∧ op ≤ 255 := rOne_bd (fun x hx => bounds_u8 (h.rd.wf x hx)) h1
  have hpl := h.lt
  have H := hid (h.below (Bl.alloc (Bl.refl w) (.cells #[.int .i64 0, .int .i64 0, .int .i64 0, .slice none 0 0] 39)))
  have H1 := hid h1
  have Hs := hid hs
  have H2 := hid h2
  have H3 := hid h3
  clear h2 h3
  clear h h1 hs
  go_enter Try.func57, Try.ntmps57
  go_wp2_with fail
  refine (one_to wB _ p ao n cap xs s H.out op s1 H1.out).mono ?_
  rintro e w1 ⟨rfl, R1, M1⟩
  have hsz1 : w.heap.size < w1.heap.size := by have := M1.size; simp at this; omega
  have HSa : Hid (St wB w (w1.alloc (.cells #[.int .i64 op, .int .i64 0, .int .i64 0, .slice none 0 0] 39)) p ao n cap xs w1.heap.size s1 op 0 0 none 0 0) :=
    ⟨R1.below (Bl.alloc (Bl.refl _) _), ((Mv.of (Bl.alloc (Bl.refl w) _)).trans M1).trans (Mv.of (Bl.alloc (Bl.refl _) _)), ((Quad.new w _ _ _ _ _).mv M1 (by omega)).below (Bl.alloc (Bl.refl _) _), Quad.new w1 _ _ _ _ _, hsz1, hpl⟩
  clear R1 M1
  go_wp2_with fail
  refine (shape_to _ _ Hs.out _).mono ?_
  rintro e w2 ⟨rfl, hb⟩
  have HS0 := hid (HSa.out.go (s' := s1) ⟨HSa.out.r.below hb, Mv.of hb⟩)
  obtain ⟨X, hX⟩ : ∃ X, X = w1.heap.size := ⟨_, rfl⟩
  rw [← hX] at HS0 ⊢
  clear hb HSa hX
  obtain ⟨c0, c1, c2, c3, f0, f1, f2, f3⟩ := HS0.out.qx
  obtain ⟨a0, a1, a2, a3, g0, g1, g2, g3⟩ := HS0.out.qa
  have hAX := HS0.out.hx
  go_wp2_with fail
  refine (operand_to wB _ p ao n cap xs _ HS0.out.r 6 (by omega) a s2 H2.out).mono ?_
  rintro e w3 ⟨rfl, R, M⟩
  have HT1 := hid (HS0.out.go ⟨R, M⟩)
  have HS1 := hid (HT1.out.set1 a)
  clear R M c0 c1 c2 c3 f0 f1 f2 f3 a0 a1 a2 a3 g0 g1 g2 g3
  obtain ⟨c0, c1, c2, c3, f0, f1, f2, f3⟩ := HT1.out.qx
  obtain ⟨a0, a1, a2, a3, g0, g1, g2, g3⟩ := HT1.out.qa
  go_wp2_with fail
  refine (runsigned_to wB _ p ao n cap xs _ HS1.out.r b s3 H3.out).mono ?_
  rintro e w4 ⟨rfl, R, M⟩
  have HT2 := hid (HS1.out.go ⟨R, M⟩)
  have HS2 := hid (HT2.out.set2 b)
  clear R M c0 c1 c2 c3 f0 f1 f2 f3 a0 a1 a2 a3 g0 g1 g2 g3
  obtain ⟨c0, c1, c2, c3, f0, f1, f2, f3⟩ := HT2.out.qx
  obtain ⟨a0, a1, a2, a3, g0, g1, g2, g3⟩ := HT2.out.qa
  go_wp2_with fail
  obtain ⟨wf, hwf, hret, ⟨q0, q1, q2, q3, _, _, _, _⟩⟩ := HS2.out.fin
  rw [hwf]
  clear hwf
  refine bodyPost_ret (v := iv op a b none 0 0) (by simp [results, Try.results57, go_sem, q0, q1, q2, q3]) rfl ⟨⟨_, _, _, rfl, Own.nil _ _ _ _⟩, hret⟩

set_option maxHeartbeats 1000000 in
theorem instr_8 (wB w : World) (p : Nat) (ao : Option Addr) (n cap : Nat) (xs : List Int) (s : RS) (h : Rdr wB w p ao n cap xs s) (op : Int) (s1 : RS) (h1 : rOne xs s = (op, s1)) (hs : sh op = 8) (a : Int) (s2 : RS) (h2 : rS 32 xs s1 = (a, s2)) :
    Calls Try.prog 57 #[.pointer (some ⟨p, 0, none⟩)] w (RetI wB p ao n cap xs w ⟨op, a, 0, []⟩ s2) := by
  have hop : 0 ≤ op ∧ op ≤ 255 := rOne_bd (fun x hx => bounds_u8 (h.rd.wf x hx)) h1
  have hpl := h.lt
  have H := hid (h.below (Bl.alloc (Bl.refl w) (.cells #[.int .i64 0, .int .i64 0, .int .i64 0, .slice none 0 0] 39)))
  have H1 := hid h1
  have Hs := hid hs
  have H2 := hid h2
  clear h2
  clear h h1 hs
  go_enter Try.func57, Try.ntmps57
  go_wp2_with fail
  refine (one_to wB _ p ao n cap xs s H.out op s1 H1.out).mono ?_
  rintro e w1 ⟨rfl, R1, M1⟩
  have hsz1 : w.heap.size < w1.heap.size := by have := M1.size; simp at this; omega
  have HSa : Hid (St wB w (w1.alloc (.cells #[.int .i64 op, .int .i64 0, .int .i64 0, .slice none 0 0] 39)) p ao n cap xs w1.heap.size s1 op 0 0 none 0 0) :=
    ⟨R1.below (Bl.alloc (Bl.refl _) _), ((Mv.of (Bl.alloc (Bl.refl w) _)).trans M1).trans (Mv.of (Bl.alloc (Bl.refl _) _)), ((Quad.new w _ _ _ _ _).mv M1 (by omega)).below (Bl.alloc (Bl.refl _) _), Quad.new w1 _ _ _ _ _, hsz1, hpl⟩
  clear R1 M1
  go_wp2_with fail
  refine (shape_to _ _ Hs.out _).mono ?_
  rintro e w2 ⟨rfl, hb⟩
  have HS0 := hid (HSa.out.go (s' := s1) ⟨HSa.out.r.below hb, Mv.of hb⟩)
  obtain ⟨X, hX⟩ : ∃ X, X = w1.heap.size := ⟨_, rfl⟩
  rw [← hX] at HS0 ⊢
  clear hb HSa hX
  obtain ⟨c0, c1, c2, c3, f0, f1, f2, f3⟩ := HS0.out.qx
  obtain ⟨a0, a1, a2, a3, g0, g1, g2, g3⟩ := HS0.out.qa
  have hAX := HS0.out.hx
  go_wp2_with fail
  refine (rsigned_to wB _ p ao n cap xs _ HS0.out.r 32 (by omega) (by omega) a s2 H2.out).mono ?_
  rintro e w3 ⟨rfl, R, M⟩
  have HT1 := hid (HS0.out.go ⟨R, M⟩)
  have HS1 := hid (HT1.out.set1 a)
  clear R M c0 c1 c2 c3 f0 f1 f2 f3 a0 a1 a2 a3 g0 g1 g2 g3
  obtain ⟨c0, c1, c2, c3, f0, f1, f2, f3⟩ := HT1.out.qx
  obtain ⟨a0, a1, a2, a3, g0, g1, g2, g3⟩ := HT1.out.qa
  go_wp2_with fail
  obtain ⟨wf, hwf, hret, ⟨q0, q1, q2, q3, _, _, _, _⟩⟩ := HS1.out.fin
  rw [hwf]
  clear hwf
  refine bodyPost_ret (v := iv op a 0 none 0 0) (by simp [results, Try.results57, go_sem, q0, q1, q2, q3]) rfl ⟨⟨_, _, _, rfl, Own.nil _ _ _ _⟩, hret⟩

set_option maxHeartbeats 1000000 in
theorem instr_9 (wB w : World) (p : Nat) (ao : Option Addr) (n cap : Nat) (xs : List Int) (s : RS) (h : Rdr wB w p ao n cap xs s) (op : Int) (s1 : RS) (h1 : rOne xs s = (op, s1)) (hs : sh op = 9) (a : Int) (s2 : RS) (h2 : rS 64 xs s1 = (a, s2)) :
    Calls Try.prog 57 #[.pointer (some ⟨p, 0, none⟩)] w (RetI wB p ao n cap xs w ⟨op, a, 0, []⟩ s2) := by
  have hop : 0 ≤ op ∧ op ≤ 255 := rOne_bd (fun x hx => bounds_u8 (h.rd.wf x hx)) h1
  have hpl := h.lt
  have H := hid (h.below (Bl.alloc (Bl.refl w) (.cells #[.int .i64 0, .int .i64 0, .int .i64 0, .slice none 0 0] 39)))
  have H1 := hid h1
  have Hs := hid hs
  have H2 := hid h2
  clear h2
  clear h h1 hs
  go_enter Try.func57, Try.ntmps57
  go_wp2_with fail
  refine (one_to wB _ p ao n cap xs s H.out op s1 H1.out).mono ?_
  rintro e w1 ⟨rfl, R1, M1⟩
  have hsz1 : w.heap.size < w1.heap.size := by have := M1.size; simp at this; omega
  have HSa : Hid (St wB w (w1.alloc (.cells #[.int .i64 op, .int .i64 0, .int .i64 0, .slice none 0 0] 39)) p ao n cap xs w1.heap.size s1 op 0 0 none 0 0) :=
    ⟨R1.below (Bl.alloc (Bl.refl _) _), ((Mv.of (Bl.alloc (Bl.refl w) _)).trans M1).trans (Mv.of (Bl.alloc (Bl.refl _) _)), ((Quad.new w _ _ _ _ _).mv M1 (by omega)).below (Bl.alloc (Bl.refl _) _), Quad.new w1 _ _ _ _ _, hsz1, hpl⟩
  clear R1 M1
  go_wp2_with fail
  refine (shape_to _ _ Hs.out _).mono ?_
  rintro e w2 ⟨rfl, hb⟩
  have HS0 := hid (HSa.out.go (s' := s1) ⟨HSa.out.r.below hb, Mv.of hb⟩)
  obtain ⟨X, hX⟩ : ∃ X, X = w1.heap.size := ⟨_, rfl⟩
  rw [← hX] at HS0 ⊢
  clear hb HSa hX
  obtain ⟨c0, c1, c2, c3, f0, f1, f2, f3⟩ := HS0.out.qx
  obtain ⟨a0, a1, a2, a3, g0, g1, g2, g3⟩ := HS0.out.qa
  have hAX := HS0.out.hx
  go_wp2_with fail
  refine (rsigned_to wB _ p ao n cap xs _ HS0.out.r 64 (by omega) (by omega) a s2 H2.out).mono ?_
  rintro e w3 ⟨rfl, R, M⟩
  have HT1 := hid (HS0.out.go ⟨R, M⟩)
  have HS1 := hid (HT1.out.set1 a)
  clear R M c0 c1 c2 c3 f0 f1 f2 f3 a0 a1 a2 a3 g0 g1 g2 g3
  obtain ⟨c0, c1, c2, c3, f0, f1, f2, f3⟩ := HT1.out.qx
  obtain ⟨a0, a1, a2, a3, g0, g1, g2, g3⟩ := HT1.out.qa
  go_wp2_with fail
  obtain ⟨wf, hwf, hret, ⟨q0, q1, q2, q3, _, _, _, _⟩⟩ := HS1.out.fin
  rw [hwf]
  clear hwf
  refine bodyPost_ret (v := iv op a 0 none 0 0) (by simp [results, Try.results57, go_sem, q0, q1, q2, q3]) rfl ⟨⟨_, _, _, rfl, Own.nil _ _ _ _⟩, hret⟩

set_option maxHeartbeats 1000000 in
theorem instr_3 (wB w : World) (p : Nat) (ao : Option Addr) (n cap : Nat) (xs : List Int) (s : RS) (h : Rdr wB w p ao n cap xs s) (op : Int) (s1 : RS) (h1 : rOne xs s = (op, s1)) (hs : sh op = 3) (a : Int) (s2 : RS) (h2 : rA 3 xs s1 = (a, s2)) :
    Calls Try.prog 57 #[.pointer (some ⟨p, 0, none⟩)] w (RetI wB p ao n cap xs w ⟨op, a, 0, []⟩ s2) := by
  have hop : 0 ≤ op ∧ op ≤ 255 := rOne_bd (fun x hx => bounds_u8 (h.rd.wf x hx)) h1
  have hpl := h.lt
  have H := hid (h.below (Bl.alloc (Bl.refl w) (.cells #[.int .i64 0, .int .i64 0, .int .i64 0, .slice none 0 0] 39)))
  have H1 := hid h1
  have Hs := hid hs
  have H2 := hid h2
  clear h2
  clear h h1 hs
  go_enter Try.func57, Try.ntmps57
  go_wp2_with fail
  refine (one_to wB _ p ao n cap xs s H.out op s1 H1.out).mono ?_
  rintro e w1 ⟨rfl, R1, M1⟩
  have hsz1 : w.heap.size < w1.heap.size := by have := M1.size; simp at this; omega
  have HSa : Hid (St wB w (w1.alloc (.cells #[.int .i64 op, .int .i64 0, .int .i64 0, .slice none 0 0] 39)) p ao n cap xs w1.heap.size s1 op 0 0 none 0 0) :=
    ⟨R1.below (Bl.alloc (Bl.refl _) _), ((Mv.of (Bl.alloc (Bl.refl w) _)).trans M1).trans (Mv.of (Bl.alloc (Bl.refl _) _)), ((Quad.new w _ _ _ _ _).mv M1 (by omega)).below (Bl.alloc (Bl.refl _) _), Quad.new w1 _ _ _ _ _, hsz1, hpl⟩
  clear R1 M1
  go_wp2_with fail
  refine (shape_to _ _ Hs.out _).mono ?_
  rintro e w2 ⟨rfl, hb⟩
  have HS0 := hid (HSa.out.go (s' := s1) ⟨HSa.out.r.below hb, Mv.of hb⟩)
  obtain ⟨X, hX⟩ : ∃ X, X = w1.heap.size := ⟨_, rfl⟩
  rw [← hX] at HS0 ⊢
  clear hb HSa hX
  obtain ⟨c0, c1, c2, c3, f0, f1, f2, f3⟩ := HS0.out.qx
  obtain ⟨a0, a1, a2, a3, g0, g1, g2, g3⟩ := HS0.out.qa
  have hAX := HS0.out.hx
  go_wp2_with fail
  refine (operand_to wB _ p ao n cap xs _ HS0.out.r 3 (by omega) a s2 H2.out).mono ?_
  rintro e w3 ⟨rfl, R, M⟩
  have HT1 := hid (HS0.out.go ⟨R, M⟩)
  have HS1 := hid (HT1.out.set1 a)
  clear R M c0 c1 c2 c3 f0 f1 f2 f3 a0 a1 a2 a3 g0 g1 g2 g3
  obtain ⟨c0, c1, c2, c3, f0, f1, f2, f3⟩ := HT1.out.qx
  obtain ⟨a0, a1, a2, a3, g0, g1, g2, g3⟩ := HT1.out.qa
  go_wp2_with fail
  obtain ⟨wf, hwf, hret, ⟨q0, q1, q2, q3, _, _, _, _⟩⟩ := HS1.out.fin
  rw [hwf]
  clear hwf
  refine bodyPost_ret (v := iv op a 0 none 0 0) (by simp [results, Try.results57, go_sem, q0, q1, q2, q3]) rfl ⟨⟨_, _, _, rfl, Own.nil _ _ _ _⟩, hret⟩

/-- An instruction is read. -/
theorem instr_to (wB w : World) (p : Nat) (ao : Option Addr) (n cap : Nat) (xs : List Int) (s : RS) (h : Rdr wB w p ao n cap xs s) (op : Int) (s1 : RS) (h1 : rOne xs s = (op, s1)) (I : Ins) (s' : RS) (ht : rTail xs op s1 = (I, s')) :
    Calls Try.prog 57 #[.pointer (some ⟨p, 0, none⟩)] w (RetI wB p ao n cap xs w I s') := by
  have hb := sh_bounds op
  have e : sh op = 0 ∨ sh op = 1 ∨ sh op = 2 ∨ sh op = 3 ∨ sh op = 4 ∨ sh op = 5 ∨ sh op = 6 ∨ sh op = 7 ∨ sh op = 8 ∨ sh op = 9 := by omega
  unfold rTail at ht
  rcases e with e | e | e | e | e | e | e | e | e | e <;> simp only [e] at ht <;> simp at ht <;> obtain ⟨rfl, rfl⟩ := ht
  · exact instr_0 wB w p ao n cap xs s h op s1 h1 e _ rfl
  · exact instr_1 wB w p ao n cap xs s h op s1 h1 e
  · exact instr_2 wB w p ao n cap xs s h op s1 h1 e _ _ rfl
  · exact instr_3 wB w p ao n cap xs s h op s1 h1 e _ _ rfl
  · exact instr_4 wB w p ao n cap xs s h op s1 h1 e _ _ rfl _ _ rfl
  · exact instr_5 wB w p ao n cap xs s h op s1 h1 e _ _ rfl _ _ rfl _ rfl
  · exact instr_6 wB w p ao n cap xs s h op s1 h1 e _ _ rfl _ _ rfl
  · exact instr_7 wB w p ao n cap xs s h op s1 h1 e _ _ rfl _ rfl
  · exact instr_8 wB w p ao n cap xs s h op s1 h1 e _ _ rfl
  · exact instr_9 wB w p ao n cap xs s h op s1 h1 e _ _ rfl

theorem get_fin {w w1 : World} {A : Nat} {z0 z1 z2 z3 : Value} (Q : Quad w1 A z0 z1 z2 z3) (hA : w.heap.size ≤ A) (HB : Below w.heap.size w w1) (u0 u1 u2 u3 : Value) (o : Obj) :
    ∃ wf, (((((w1.setCell ⟨A, 0, none⟩ u0).setCell ⟨A, 1, none⟩ u1).setCell ⟨A, 2, none⟩ u2).setCell ⟨A, 3, none⟩ u3).alloc o).drew = wf ∧ Quad wf A u0 u1 u2 u3 ∧ Below w.heap.size w wf ∧
      (∀ (E : TypeId) (k : IntKind) (base : Nat) (v : Value) (xs : List Int), A < base → Own E k base w1 v xs → Own E k base wf v xs) :=
  ⟨_, rfl, ((Q.setAll u0 u1 u2 u3).below (Bl.alloc (Bl.refl _) o)).below (Below.refl _ _).drew,
   (Bl.alloc (Bl.set (Bl.set (Bl.set (Bl.set HB hA _) hA _) hA _) hA _) o).drew,
   fun _ _ _ _ _ hb h => ((((((h.mv (Mv.set A 0 _ u0) hb).mv (Mv.set A 1 _ u1) hb).mv (Mv.set A 2 _ u2) hb).mv (Mv.set A 3 _ u3) hb)).alloc o).drew⟩

/-- What Get answers. -/
def RetG (w : World) (I : Ins) (k : Nat) (er : Int) (e : Ending) (w' : World) : Prop :=
  ∃ lo ln lc, e = .returned (.tuple #[iv I.op I.a I.b lo ln lc, .int .i64 k, .int .i64 er]) ∧ Own 3 .i64 w.heap.size w' (.slice lo ln lc) I.l ∧ Below w.heap.size w w'

set_option maxHeartbeats 1000000 in
theorem get_to (ao : Option Addr) (n cap : Nat) (xs : List Int) (w : World) (hr : Rd .u8 w ao n cap xs) (I : Ins) (k : Nat) (er : Int) (hg : getI xs = (I, k, er)) :
    Calls Try.prog 44 #[.slice ao n cap] w (RetG w I k er) := by
  obtain ⟨op, s1, h1⟩ : ∃ op s1, rOne xs ⟨0, 0⟩ = (op, s1) := ⟨_, _, rfl⟩
  obtain ⟨J, s2, h2⟩ : ∃ J s2, rTail xs op s1 = (J, s2) := ⟨_, _, rfl⟩
  have hg' : (if s2.err = 0 then (J, s2.at', 0) else (⟨0, 0, 0, []⟩, 0, s2.err)) = (I, k, er) := by
    unfold getI rIns at hg
    rw [h1] at hg
    simp only at hg
    rw [h2] at hg
    exact hg
  obtain ⟨w0, hw0⟩ : ∃ w0, w0 = (w.alloc (.cells #[.int .i64 0, .int .i64 0, .int .i64 0, .slice none 0 0] 39)).alloc (.cells #[.slice ao n cap, .int .i64 0, .int .i64 0] 90) := ⟨_, rfl⟩
  have hR : Rdr w w0 (w.heap.size + 1) ao n cap xs ⟨0, 0⟩ := by
    rw [hw0]
    refine ⟨Bl.alloc (Bl.alloc (Bl.refl w) _) _, by omega, hr, ?_, ?_, ?_, ?_, ?_, Nat.zero_le _⟩ <;> go_simp
  have hQ : Quad w0 w.heap.size (.int .i64 0) (.int .i64 0) (.int .i64 0) (.slice none 0 0) := by
    rw [hw0]
    exact (Quad.new w _ _ _ _ _).below (Bl.alloc (Bl.refl _) _)
  have HR := hid hR
  have HQ := hid hQ
  have HW := hid hw0
  have H1 := hid h1
  have H2 := hid h2
  have HG := hid hg'
  have Hb0 := hid hR.base
  have Hz0 := hid hR.lt
  clear hR hQ hw0 h1 h2 hg' hg hr
  go_enter Try.func44, Try.ntmps44
  go_wp2_with fail
  rw [← HW.out]
  refine (instr_to w w0 (w.heap.size + 1) ao n cap xs ⟨0, 0⟩ HR.out op s1 H1.out J s2 H2.out).mono ?_
  rintro e w1 ⟨⟨lo, ln, lc, rfl, hown⟩, R, M⟩
  obtain ⟨P, hP⟩ : ∃ P, P = w.heap.size + 1 := ⟨_, rfl⟩
  rw [← hP] at R M ⊢
  have hPA : P ≠ w.heap.size := by omega
  obtain ⟨i2, e2⟩ := s2
  have c1 : w1.cell? ⟨P, 1, none⟩ = some (.int .i64 i2) := R.c1
  have c2 : w1.cell? ⟨P, 2, none⟩ = some (.int .i64 e2) := R.c2
  obtain ⟨a0, a1, a2, a3, g0, g1, g2, g3⟩ := HQ.out.mv M (by omega)
  have hA1 : w.heap.size < w1.heap.size := World.block_lt_of_cell? w1 _ a0
  have hP1 : P < w1.heap.size := R.lt
  have Q1 := hid (HQ.out.mv M (by omega))
  have Hown := hid hown
  have HB := hid R.base
  clear R M hown HR HW H1 H2 HQ
  have Hz1 := hid (show w.heap.size ≤ w0.heap.size by have := Hz0.out; omega)
  have HP := hid hP
  clear hP
  by_cases h0 : e2 = 0
  · subst h0
    have hg := HG.out
    rw [if_pos rfl] at hg
    cases hg
    go_wp2_with fail
    go_region
    obtain ⟨wf, hwf, ⟨q0, q1, q2, q3, _, _, _, _⟩, hbf, hof⟩ := get_fin (w := w) Q1.out (Nat.le_refl _) HB.out (.int .i64 I.op) (.int .i64 I.a) (.int .i64 I.b) (.slice lo ln lc) (.cells #[.int .i64 I.op, .int .i64 I.a, .int .i64 I.b, .slice lo ln lc] 39)
    rw [hwf]
    have Hof := hid (hof 3 .i64 _ _ _ (by have := Hz0.out; omega) Hown.out)
    clear hwf hof
    go_wp2_with fail
    refine bodyPost_ret (v := .tuple #[iv I.op I.a I.b lo ln lc, .int .i64 i2, .int .i64 0]) (by simp [results, Try.results44, go_sem, q0, q1, q2, q3]) rfl ⟨_, _, _, rfl, Hof.out.lift Hz1.out, hbf⟩
  · have h0' : (e2 != 0) = true := by simp [h0]
    have hg := HG.out
    rw [if_neg h0] at hg
    cases hg
    go_wp2_with fail
    go_region
    obtain ⟨wf, hwf, ⟨q0, q1, q2, q3, _, _, _, _⟩, hbf, hof⟩ := get_fin (w := w) Q1.out (Nat.le_refl _) HB.out (.int .i64 0) (.int .i64 0) (.int .i64 0) (.slice none 0 0) (.cells #[.int .i64 J.op, .int .i64 J.a, .int .i64 J.b, .slice lo ln lc] 39)
    rw [hwf]
    have Hof := hid (hof 3 .i64 _ _ _ (by have := Hz0.out; omega) Hown.out)
    clear hwf hof
    go_wp2_with fail
    refine bodyPost_ret (v := .tuple #[iv 0 0 0 none 0 0, .int .i64 (0 : Nat), .int .i64 e2]) (by simp [results, Try.results44, go_sem, q0, q1, q2, q3]) rfl ⟨_, _, _, rfl, Own.nil _ _ _ _, hbf⟩
end Go.Proofs.Ytfambbpggodlkaa
