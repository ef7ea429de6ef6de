/- mem's laws: MemOwn, MemParts. -/
import Derived.Test.YtcbchhnbkgaboaaMemL1
namespace Go.Proofs.Ytcbchhnbkgaboaa
open Go.RowKit

theorem Own.noughts {E : TypeId} {base n : Nat} {w : World} (hb : base ≤ w.heap.size) (hn : n ≤ 65536) : Own E .u8 base (w.alloc (.cells ((zer n).map (Value.int .u8)).toArray E)) (.slice (some ⟨w.heap.size, 0, none⟩) n n) (zer n) := by
  have hl := zer_len n
  refine ⟨⟨by simp, .inr ⟨w.heap.size, n, _, by rw [hl], hb, heap_alloc_new w _, by rw [hl]; exact Nat.le_refl _, by unfold maxLen; omega, by simp [hl], ?_⟩⟩, fun x hx => ?_⟩
  · rw [hl, Nat.mul_one]
    exact List.take_of_length_le (by simp [hl])
  · rw [zer_mem hx]; rfl
theorem Own.rd_at {E : TypeId} {k : IntKind} {base : Nat} {w : World} {g n cap : Nat} {xs : List Int} (h : Own E k base w (.slice (some ⟨g, 0, none⟩) n cap) xs) : Rd k w (some ⟨g, 0, none⟩) n cap xs := by
  obtain ⟨ao, c, he, hr⟩ := h.rd
  injection he with h1 h2 h3
  subst h1 h2 h3
  exact hr
theorem set_get (xs : List Int) (i : Nat) (x : Int) (h : i < xs.length) : (xs.set i x).getD i 0 = x := by simp [List.getD, h]
/-- 'make([]T, n)' of a known size, its world a variable. -/
theorem wpList_make {P : Program} {w : World} {ops : Array Oper} {rest : List Oper} {o : Oper} {a : Act} {Q : Exit → Act → World → Prop} (hgd : o.guard = none) (t E : TypeId) (x y : Operand) (ho : o.op = .makeSlice t x y) (n : Nat) (hn : n ≤ 65536)
    (hr : (Instr.makeSlice t (a.eval x) (a.eval y)).run P w = .ok (.slice (some ⟨w.heap.size, 0, none⟩) n n) (w.alloc (.cells ((zer n).map (Value.int .u8)).toArray E)))
    (h : ∀ w', Hid (Own E .u8 w.heap.size w' (.slice (some ⟨w.heap.size, 0, none⟩) n n) (zer n) ∧ Below w.heap.size w w') → wpList P ops Q rest (a.put o.dst (.slice (some ⟨w.heap.size, 0, none⟩) n n)) w') : wpList P ops Q (o :: rest) a w := by
  refine wpList_plain hgd fun K hK => ?_
  unfold Oper.wp execOp
  simp only [ho, hr, Sem.run_bind, Sem.run_pure, Result.andThen_ok]
  exact hK _ _ (h _ ⟨Own.noughts (Nat.le_refl _) hn, Bl.alloc (Bl.refl _) _⟩)
set_option maxHeartbeats 1000000 in
theorem memOwn_walk (x : Int) (w : World) (hx : 0 ≤ x ∧ x < 256) : Calls Try.prog 10 #[.int .u8 x] w fun e w' => e = .returned (.bool true) ∧ Below w.heap.size w w' := by
  go_enter Try.func10, Try.ntmps10
  go_wp2_with fail
  refine (begun_to w).mono ?_
  rintro e w1 ⟨rfl, hb⟩
  have HB := hid hb
  clear hb
  go_wp2_with fail
  refine (new_to 1 (-1) w1 (by decide)).mono ?_
  rintro e w2 ⟨rfl, hM, hb⟩
  obtain ⟨M, hMM⟩ : ∃ M, M = newM (1 : Nat) (-1) := ⟨_, rfl⟩
  obtain ⟨g, hgg⟩ : ∃ g, g = w1.heap.size + 1 := ⟨_, rfl⟩
  have hg : w.heap.size ≤ g := by have := HB.out.size; omega
  rw [← hgg, ← hMM] at hM
  rw [← hgg]
  clear hgg
  have hp1 : M.p = 1 := by rw [hMM]; rfl
  have HP1 := hid hp1
  replace HB := hid (HB.out.trans (hb.mono HB.out.size))
  have HM := hid hM
  clear hM hb hp1 hMM
  go_wp2_with (with_reducible refine wpList_make (o := ⟨some 14, _, _, _, _, none⟩) rfl 28 5 (.const (.int .i64 256)) (.const (.int .i64 256)) rfl 256 (by decide) ?hmk ?_)
  case hmk => exact make256 _
  intro w3 h3
  obtain ⟨hO, hb⟩ := h3.out
  have hgw : w.heap.size ≤ w2.heap.size := HB.out.size
  replace HB := hid (HB.out.trans (hb.mono HB.out.size))
  replace HM := hid (HM.out.bl hb)
  obtain ⟨gp, hgp⟩ : ∃ gp, gp = w2.heap.size := ⟨_, rfl⟩
  rw [← hgp] at hO hgw ⊢
  clear h3 hb hgp
  have hng : gp ≠ g := fun e => hO.ne_blk HM.out.blk (by decide) (by rw [e]; rfl)
  obtain ⟨Z, hZ⟩ : ∃ Z, Z = zer 256 := ⟨_, rfl⟩
  have hzl : Z.length = 256 := by rw [hZ]; exact zer_len _
  have hz7 : Z.getD 7 0 = 0 := by rw [hZ]; exact zer_get _ _
  rw [← hZ] at hO
  clear hZ
  have c1 := (hO.cell 7 (by omega)).1
  have f1 := (hO.cell 7 (by omega)).2.1
  rw [hz7] at c1
  have HZL := hid hzl
  clear hzl hz7
  have hO2 := hO.set 7 x (WalkArith.wf_u8 (by omega))
  have HO := hid hO2
  replace HM := hid (HM.out.far (p := ⟨gp, 7, none⟩) (Ne.symm hng) (.int .u8 x))
  replace HB := hid (HB.out.setCell (p := ⟨gp, 7, none⟩) hgw (.int .u8 x))
  clear hO hO2
  go_wp2_with fail
  clear c1 f1
  obtain ⟨xs, hxs⟩ : ∃ xs, xs = Z.set 7 x := ⟨_, rfl⟩
  have hxl : xs.length = 256 := by rw [hxs]; simp [HZL.out]
  have hx7 : xs.getD 7 0 = x := by rw [hxs]; exact set_get _ _ _ (by rw [HZL.out]; decide)
  rw [← hxs] at HO
  clear hxs
  generalize w3.setCell ⟨gp, 7, none⟩ (.int .u8 x) = w4 at HO HM HB ⊢
  refine (setPage_to g M 0 ⟨gp, 0, none⟩ 256 xs w4 HM.out (by rw [HP1.out]; decide) HO.out.rd_at).mono ?_
  rintro e w5 ⟨rfl, hM, hW⟩
  replace HO := hid (HO.out.wr hW (HO.out.ne_blk HM.out.blk (by decide)))
  have HMM := hid HM.out.ok
  replace HM := hid hM
  replace HB := hid (HB.out.trans (hW.below HB.out.size hg))
  clear hM hW
  have c1 := (HO.out.cell 7 (by omega)).1
  have f1 := (HO.out.cell 7 (by omega)).2.1
  rw [hx7] at c1
  have hO2 := HO.out.set 7 ((x + 1) % 256) (WalkArith.wf_u8 (by omega))
  replace HO := hid hO2
  replace HM := hid (HM.out.far (p := ⟨gp, 7, none⟩) (Ne.symm hng) (.int .u8 ((x + 1) % 256)))
  replace HB := hid (HB.out.setCell (p := ⟨gp, 7, none⟩) hgw (.int .u8 ((x + 1) % 256)))
  clear hO2
  have HX7 := hid hx7
  clear hx7
  go_wp2_with fail
  clear c1 f1 HO
  generalize w5.setCell ⟨gp, 7, none⟩ (.int .u8 ((x + 1) % 256)) = w6 at HM HB ⊢
  refine (pg_to g _ 0 w6 HM.out (by show 0 < M.p; rw [HP1.out]; decide)).mono ?_
  rintro e w7 ⟨vq, rfl, hQ, hb⟩
  have hpl := pageM_len HM.out.ok 0 (by decide)
  replace HM := hid (HM.out.bl hb)
  have hgw6 := HB.out.size
  replace HB := hid (HB.out.trans (hb.mono HB.out.size))
  have hnq := hQ.ne_blk HM.out.blk (by decide)
  have hlq := hQ.lt
  have hge : (setPageM M 0 xs).c.getD 7 0 = x := by
    simp only [setPageM]
    rw [splice_getD _ _ _ _ (by rw [HMM.out.cl]; omega), if_pos (by omega)]
    exact HX7.out
  obtain ⟨gq, cq, rfl, q1, q2, c1⟩ := hQ.int_at 256 hpl 7 (by decide)
  have f1 := (hQ.cell 7 (by rw [hpl]; decide)).2.1
  rw [pageM_get 0 7 (by decide), show 256 * 0 + 7 = 7 by decide, hge] at c1
  have hgq : gq ≠ g := fun e => hnq (by rw [e]; rfl)
  have hgq2 : w.heap.size ≤ gq := by have := (hlq gq rfl).1; omega
  replace HM := hid (HM.out.far (p := ⟨gq, 7, none⟩) (Ne.symm hgq) (.int .u8 ((x + 1) % 256)))
  replace HB := hid (HB.out.setCell (p := ⟨gq, 7, none⟩) hgq2 (.int .u8 ((x + 1) % 256)))
  have HGE := hid hge
  clear hQ hb hpl hnq hlq hge
  go_wp2_with fail
  generalize w7.setCell ⟨gq, 7, none⟩ (.int .u8 ((x + 1) % 256)) = w8 at HM HB ⊢
  refine (load_to g _ 7 1 w8 HM.out (by decide) (by show 7 + 1 ≤ 256 * M.p; rw [HP1.out]; decide)).mono ?_
  rintro e w' ⟨rfl, rfl⟩
  have hnum : ((numM (setPageM M 0 xs).c 7 1 : Nat) : Int) = x := by
    simp only [numM, HGE.out, Nat.add_zero]
    omega
  rw [hnum]
  clear hnum
  go_wp2_with fail
  go_ret
  exact ⟨by simp, HB.out⟩
end Go.Proofs.Ytcbchhnbkgaboaa
