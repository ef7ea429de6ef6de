/- dev: Write. -/
import Derived.Test.YtpfcopdckjedfaaDoorKDA
import Derived.Deep.RegionHeld3
namespace Go.Proofs.YtpfcopdckjedfaaDoor
open Go.RowKit Go.Maps
set_option linter.unusedVariables false
set_option maxRecDepth 100000

theorem mapU {P : Program} {w : World} {t k e : TypeId} {b n : Nat} {D : DataW Value} (h : w.ownsMap P k RV b n D) (K : Keyed P k) (ht : P.underlying t = some (.map k e)) (hn : n < maxLen) {ky x : Value} {kl : Lit} (hkey : keyOf P k ky = some kl) :
    ∃ w', (Instr.mapUpdate t (.map (some b)) ky x).run P w = .ok () w' ∧ w'.ownsMap P k RV b (n + 1) (D.put kl (.held x)) ∧ w.mapTurned w' b := h.store K ht hn hkey rfl

set_option maxRecDepth 100000 in
/-- 'copy(d.sectors[k][:], b)'. -/
theorem copy_sec {w : World} {L : List Sec} {bs n' cap k : Nat} (h : OwnC 60 64 0 w (.slice (some ⟨bs, 0, none⟩) n' cap) (L.map cs8)) (hk : k < L.length) {ao : Option Addr} {n bcap : Nat} {b : List Int} (hb : Rd .u8 w ao n bcap b) (hn : n ≤ 64) (ty : TypeId) :
    ∃ w', (Builtin.copy_ #[30, 30] ty #[.slice (some ⟨bs, k * 64, none⟩) 64 64, .slice ao n bcap]).run Tryd.prog w = .ok (.int .i64 (n : Int)) w' ∧
      OwnC 60 64 0 w' (.slice (some ⟨bs, 0, none⟩) n' cap) ((L.set k (b ++ (L.getD k []).drop b.length)).map cs8) ∧ Wr bs w w' := by
  have hlen : (cs8 b).length = n := by simp [cs8, hb.len]
  have fin : ∀ w', (∀ cur, Blk w bs 60 cur → Blk w' bs 60 (splice cur (k * 64) (cs8 b))) → OwnC 60 64 0 w' (.slice (some ⟨bs, 0, none⟩) n' cap) ((L.set k (b ++ (L.getD k []).drop b.length)).map cs8) := by
    intro w' hw
    have := h.over' (i := k) (by simpa using hk) (vs := cs8 b) (by omega) hw
    rwa [cs8_get, cs8_over, cs8_set] at this
  by_cases h0 : n = 0
  · subst h0
    have hb0 : b = [] := List.eq_nil_of_length_eq_zero hb.len
    refine ⟨w, run_copy_none (P := Tryd.prog) w 30 30 ty 5 _ ao 64 64 0 bcap Tryd.underlying30 (by kernel_rfl) rfl, fin w (fun cur hc => ?_), Wr.refl _ _⟩
    subst hb0
    simpa [cs8, splice] using hc
  · obtain ⟨cur, hc, e1, hle, hmx, hsz, ht, hB⟩ := h.open
    cases ao with
    | none => have := hb.nil rfl; have := hb.le; omega
    | some ad =>
      have hfit : k * 64 + n ≤ cur.length := by
        simp at e1
        have := Nat.mul_le_mul_right 64 (show k + 1 ≤ cap by omega)
        omega
      have hrun := run_copy_row (P := Tryd.prog) w 30 30 ty 5 bs (k * 64) 64 64 ad n bcap cur.toArray 60 (cs8 b) Tryd.underlying30 (by kernel_rfl) hc (by rw [hlen]; exact (Nat.min_eq_left hn).symm) (hb.news rfl) (by simpa [hlen] using hfit) (cs8_one b)
      rw [hlen] at hrun
      refine ⟨_, hrun, fin _ (fun cur' hc' => ?_), (Wr.refl bs w).setRow _⟩
      have e : cur' = cur := by
        unfold Blk at hc hc'
        rw [hc] at hc'
        injection hc' with hc'
        injection hc' with hc'
        simpa using hc'.symm
      subst e
      have := hc.setRow (splice cur' (k * 64) (cs8 b))
      simpa [splice, hlen] using this
/-- What lies where the device does not. -/
theorem Rd.off {w w' : World} {ao : Option Addr} {n cap : Nat} {b : List Int} (h : Rd .u8 w ao n cap b) (hs : ∀ ad, ao = some ad → ad.block < w.heap.size → w'.heap[ad.block]? = w.heap[ad.block]?) : Rd .u8 w' ao n cap b :=
  h.stay fun ad ha h0 => by
    have hc := h.cell ad ha 0 h0
    have hlt := World.block_lt_of_cell? w _ hc
    have hbk : (ad.add 0).block = ad.block := by unfold Addr.add; split <;> rfl
    rw [hbk] at hlt
    exact hs ad ha hlt

/-- A write, ahead of its copy. -/
structure Half (w0 w : World) (M : Dv) (p bs cap bm k : Nat) (b : List Int) : Prop where
  wr : Wr bm w0 w
  blk : Blk w p 63 [.slice (some ⟨bs, 0, none⟩) M.now.length cap, .map (some bm), .int .i64 (M.calls : Int), .int .i64 (max M.fuse 0), .bool (decide (M.fuse = 0))]
  sec : OwnC 60 64 0 w (.slice (some ⟨bs, 0, none⟩) M.now.length cap) (M.now.map cs8)
  map : ∃ D, w.ownsMap Tryd.prog 3 RV bm ((M.mid k b).loose.count true) D ∧ Loo D (M.mid k b)
  n1 : p ≠ bs
  n3 : bs ≠ bm
theorem Half.cells {w0 w : World} {M : Dv} {p bs cap bm k : Nat} {b : List Int} (h : Half w0 w M p bs cap bm k b) {m : Nat} (hm : M.now.length = m) : w.cell? ⟨p, 0, none⟩ = some (.slice (some ⟨bs, 0, none⟩) m cap) ∧ w.cell? ⟨p, 1, none⟩ = some (.map (some bm)) := by
  subst hm
  exact ⟨h.blk.cell 0, h.blk.cell 1⟩
theorem Half.copy {w0 w : World} {M : Dv} {p bs cap bm k : Nat} {b : List Int} (h : Half w0 w M p bs cap bm k b) (hM : M.ok) (hk : k < M.now.length) {ao : Option Addr} {n bcap : Nat} (hb : Rd .u8 w0 ao n bcap b) (hn : n ≤ 64) (hap : ∀ ad, ao = some ad → ¬ (ad.block = p ∨ ad.block = bs ∨ ad.block = bm)) :
    ∃ w', (Builtin.copy_ #[30, 30] 3 #[.slice (some ⟨bs, k * 64, none⟩) 64 64, .slice ao n bcap]).run Tryd.prog w = .ok (.int .i64 (n : Int)) w' ∧ DvL w' (M.mid k b) p bs cap bm ∧ Wrs (fun b => b = p ∨ b = bs ∨ b = bm) w0 w' := by
  have hb' : Rd .u8 w ao n bcap b := hb.off fun ad ha hlt => h.wr.block _ hlt (fun e => hap ad ha (.inr (.inr (by cases e; rfl))))
  obtain ⟨w', hcp, h4, hW⟩ := copy_sec (k := k) h.sec hk hb' hn 3
  obtain ⟨D, hm, hD⟩ := h.map
  refine ⟨w', hcp, ⟨Dv.mid_ok hM hk (by rw [hb.len]; exact hn) hb.wf, ?_, ?_, ⟨D, hm.kept hW (fun e => h.n3 (by cases e; rfl)), hD⟩⟩, ?_⟩
  · have := h.blk.grown hW (fun e => h.n1 (by cases e; rfl))
    simpa [Dv.mid] using this
  · have e : (M.mid k b).now.length = M.now.length := by simp [Dv.mid]
    rw [e]
    exact h4
  · exact ⟨hW.os.trans h.wr.os, hW.tape.trans h.wr.tape, hW.output.trans h.wr.output, Nat.le_trans h.wr.size hW.size, fun c hc hnc => (hW.block c (Nat.lt_of_lt_of_le hc h.wr.size) (fun e => hnc (.inr (.inl (by cases e; rfl))))).trans (h.wr.block c hc (fun e => hnc (.inr (.inr (by cases e; rfl)))))⟩

theorem Half.loose {w w1 w2 : World} {M : Dv} {p bs cap bm k : Nat} {cs cs' : List Value} {bb : List Int} (h : DvL w M p bs cap bm) (hk : k < M.now.length) (hl : M.loose.getD k false = true) {t t' : TypeId} (H1 : Hid (Blk w1 w.heap.size t cs ∧ Below w.heap.size w w1)) (H2 : Hid (Blk w2 w.heap.size t' cs' ∧ Wr w.heap.size w1 w2)) : Half w w2 M p bs cap bm k bb := by
  have hB2 : Below w.heap.size w w2 := H1.out.2.trans (H2.out.2.below H1.out.2.size (Nat.le_refl _))
  have h2 := h.bel hB2
  obtain ⟨D2, hm2, hD2⟩ := h2.map
  obtain ⟨q1, q2, q3⟩ := h2.ne
  refine ⟨Wr.of hB2, h2.blk, h2.sec, ⟨_, ?_, Loo.loose hD2 h.ok hk hl bb⟩, q1, q3⟩
  have e : (M.mid k bb).loose.count true = M.loose.count true := by
    have := count_set_true M.loose k (by rw [h.ok.l]; exact hk)
    rw [hl] at this
    exact this
  rw [e]
  exact hm2

set_option maxHeartbeats 1000000 in
theorem write_ok {w : World} {M : Dv} {p bs cap bm : Nat} (h : DvL w M p bs cap bm) (k : Nat) (hk : k < M.now.length) (ao : Option Addr) (n bcap : Nat) (b : List Int) (hb : Rd .u8 w ao n bcap b) (hn : n ≤ 64) (hap : ∀ ad, ao = some ad → ¬ (ad.block = p ∨ ad.block = bs ∨ ad.block = bm)) (hc : M.calls < 1000000000) (hf : M.fuse ≠ 0) :
    Calls Tryd.prog 18 #[atp p, .int .i64 (k : Int), .slice ao n bcap] w fun e w' => e = .returned (.int .i64 0) ∧ DvL w' (M.put k b) p bs cap bm ∧ Wrs (fun b => b = p ∨ b = bs ∨ b = bm) w w' := by
  have hd := dead_to h
  rw [decide_eq_false hf] at hd
  have hh := has_to h (k : Int)
  rw [decide_eq_true (by omega : (0 : Int) ≤ (k : Int) ∧ (k : Int) < (M.now.length : Int))] at hh
  obtain ⟨c0, c1, c2, c3, c4⟩ := h.cells
  obtain ⟨D, hm, hD⟩ := h.map
  have hkey := keyOf_int_mk (P := Tryd.prog) Tryd.underlying3 (a := (k : Int)) (WalkArith.wf_i64 (by have := h.ok.n2; omega))
  have hr := h.rng hk
  obtain ⟨S, hS⟩ : ∃ S, M.now.getD k [] = S := ⟨_, rfl⟩
  have hok : secOk S := by rw [← hS]; refine h.ok.now _ ?_; simp [List.getD, hk]
  have hlen := cs8_len hok
  have hone := cs8_one S
  rw [hS] at hr
  have hz := size46
  rw [← hlen] at hz
  obtain ⟨l, hl⟩ : ∃ l, M.loose.getD k false = l := ⟨_, rfl⟩
  have hHl : Maps.has D (key k) = l := by rw [hD.has k hk, hl]
  have hn2 := h.ok.n2
  have hcap := h.capb
  have hcnt := h.cnt
  have hHH := hid h
  cases l with
  | false =>
    have hlk := ownsMap_look_ok hm keyedI Tryd.underlying61 (zero46 w) hkey (x := secV zSec) (by rw [atKey_of_not_has hHl])
    rw [hHl] at hlk
    obtain ⟨m, hm'⟩ : ∃ m, M.now.length = m := ⟨_, rfl⟩
    rw [hm'] at hk hcap c0 hn2
    have HX := hid (And.intro h (And.intro hb (And.intro hap (And.intro hc (And.intro hf (And.intro hD (And.intro hm (And.intro hS (And.intro hok (And.intro hl hm'))))))))))
    clear h hb hap hc hf hD hS hok hl hm' hm hHl c2 c3 c4 hHH
    go_enter Tryd.func18, Tryd.ntmps18
    go_wp2_with fail
    refine hd.mono ?_
    rintro e w' ⟨rfl, rfl⟩
    clear hd
    go_wp2_with fail
    refine hh.mono ?_
    rintro e w' ⟨rfl, rfl⟩
    clear hh
    go_wp2_with (first
      | (refine wpList_var rfl 60 rfl (cs8 zSec) (alloc46 _) ?_; intro w1 H1 hs1)
      | (refine wpList_store_blk rfl 60 (.tmp 7) (.tmp 25) rfl w.heap.size (cs8 zSec) (cs8 zSec) 60 rfl rfl H1.out.1 (by rfl) size46 (cs8_one _) ?_; intro w2 H2 hs2))
    have hB2 : Below w.heap.size w w2 := H1.out.2.trans (H2.out.2.below (by omega) (Nat.le_refl _))
    have h2 := HX.out.1.bel hB2
    obtain ⟨D2, hm2, hD2⟩ := h2.map
    have hr2 := h2.rng (i := k) (by rw [HX.out.2.2.2.2.2.2.2.2.2.2]; exact hk)
    obtain ⟨w3, hu, hm3, ht3⟩ := mapU (x := secV S) hm2.drew keyedI Tryd.underlying61 (by unfold maxLen; omega) hkey
    rw [HX.out.2.2.2.2.2.2.2.1] at hr2
    have c0 := h2.cells.1
    have c1 := h2.cells.2.1
    rw [HX.out.2.2.2.2.2.2.2.2.2.2] at c0
    have hui := Tryd.underlying60
    have k0 : (0 : Int) ≤ (k : Int) := by omega
    have k1 : (k : Int) < (m : Int) := by omega
    have hg3 := ht3.grown
    obtain ⟨q1, q2, q3⟩ := h2.ne
    have b3 : Blk w3 p 63 _ := h2.blk.drew.grown hg3 (fun e => q2 (by cases e; rfl))
    have s3 := h2.sec.drew.grown hg3 (fun g hg e => by cases hg; cases e; exact q3 rfl)
    have hS3 : w3.cell? ⟨p, 0, none⟩ = some (.slice (some ⟨bs, 0, none⟩) m cap) ∧ w3.cell? ⟨p, 1, none⟩ = some (.map (some bm)) ∧ w3.rangeAt bs (k * 64) (cs8 S) := by
      refine ⟨by rw [b3.cell 0, ← HX.out.2.2.2.2.2.2.2.2.2.2]; rfl, b3.cell 1, ?_⟩
      have := s3.range (i := k) (by rw [List.length_map, HX.out.2.2.2.2.2.2.2.2.2.2]; exact hk)
      rwa [cs8_get, HX.out.2.2.2.2.2.2.2.1] at this
    have d0 := hS3.1
    have d1 := hS3.2.1
    have hW3 : Wr bm w w3 := (Wr.of hB2).drew.step hg3
    have hMk : k < M.now.length := by rw [HX.out.2.2.2.2.2.2.2.2.2.2]; exact hk
    have hHalf : Half w w3 M p bs cap bm k b := by
      refine ⟨hW3, b3, s3, ⟨_, ?_, Loo.firm hD2 hm2.isMap HX.out.1.ok hMk HX.out.2.2.2.2.2.2.2.2.2.1 b⟩, q1, q3⟩
      have e : (M.mid k b).loose.count true = M.loose.count true + 1 := by
        have := count_set_true M.loose k (by rw [HX.out.1.ok.l]; exact hMk)
        rw [HX.out.2.2.2.2.2.2.2.2.2.1] at this
        exact this
      rw [e, HX.out.2.2.2.2.2.2.2.1]
      exact hm3
    have HB := hid hHalf
    clear H1 H2 hs1 hs2 hB2 h2 hD2 hlk hr hm2 hm3 ht3 hg3 q1 q2 q3 b3 s3 hW3 hHalf
    go_region_held3 (fun w' => w'.cell? ⟨p, 0, none⟩ = some (.slice (some ⟨bs, 0, none⟩) m cap) ∧ w'.cell? ⟨p, 1, none⟩ = some (.map (some bm)) ∧ w'.rangeAt bs (k * 64) (cs8 S)) (first | assumption | go_keep_ranges) (fail)
    obtain ⟨w4, hcp, h5, hW5⟩ := HB.out.copy HX.out.1.ok hMk HX.out.2.1 hn HX.out.2.2.1
    have hcn := count_to h5 HX.out.2.2.2.1 HX.out.2.2.2.2.1
    have HW := hid hW5
    clear hW5 h5
    go_wp2_with fail
    refine hcn.mono ?_
    rintro e w5 ⟨rfl, h6, h7⟩
    have HY := hid (And.intro h6 h7)
    clear h6 h7 hcn
    go_wp2_with fail
    go_ret
    refine ⟨rfl, HY.out.1, ?_⟩
    have a1 := HW.out
    have a2 := HY.out.2
    exact ⟨a2.os.trans a1.os, a2.tape.trans a1.tape, a2.output.trans a1.output, Nat.le_trans a1.size a2.size, fun c hc hnc => (a2.block c (Nat.lt_of_lt_of_le hc a1.size) (fun e => hnc (.inl (by cases e; rfl)))).trans (a1.block c hc hnc)⟩
  | true =>
    obtain ⟨U, hU⟩ : ∃ U, M.safe.getD k [] = U := ⟨_, rfl⟩
    have hsl : (cs8 U).length = 64 := cs8_len (by rw [← hU]; exact h.ok.safe _ (by simp [List.getD, h.ok.s, hk]))
    have hlk := ownsMap_look_ok hm keyedI Tryd.underlying61 (zero46 w) hkey (x := secV U) (by rw [← hU]; exact hD.at' k hk hl _)
    rw [hHl] at hlk
    obtain ⟨m, hm'⟩ : ∃ m, M.now.length = m := ⟨_, rfl⟩
    rw [hm'] at hk hcap c0 hn2
    have HX := hid (And.intro h (And.intro hb (And.intro hap (And.intro hc (And.intro hf (And.intro hD (And.intro hm (And.intro hS (And.intro hok (And.intro hl hm'))))))))))
    clear hU
    clear h hb hap hc hf hD hS hok hl hm' hm hHl c2 c3 c4 hHH
    have k0 : (0 : Int) ≤ (k : Int) := by omega
    have k1 : (k : Int) < (m : Int) := by omega
    go_enter Tryd.func18, Tryd.ntmps18
    go_wp2_with fail
    refine hd.mono ?_
    rintro e w' ⟨rfl, rfl⟩
    clear hd
    go_wp2_with fail
    refine hh.mono ?_
    rintro e w' ⟨rfl, rfl⟩
    clear hh
    go_wp2_with (first
      | (refine wpList_var rfl 60 rfl (cs8 zSec) (alloc46 _) ?_; intro w1 H1 hs1)
      | (refine wpList_store_blk rfl 60 (.tmp 7) (.tmp 25) rfl w.heap.size (cs8 zSec) (cs8 U) 60 rfl rfl H1.out.1 (by rw [hsl]; rfl) (by rw [hsl]; exact size46) (cs8_one _) ?_; intro w2 H2 hs2; have HB := hid (Half.loose (bb := b) HX.out.1 (by rw [HX.out.2.2.2.2.2.2.2.2.2.2]; exact hk) HX.out.2.2.2.2.2.2.2.2.2.1 H1 H2); obtain ⟨d0, d1⟩ := HB.out.cells HX.out.2.2.2.2.2.2.2.2.2.2; obtain ⟨w4, hcp, h5, hW5⟩ := HB.out.copy HX.out.1.ok (by rw [HX.out.2.2.2.2.2.2.2.2.2.2]; exact hk) HX.out.2.1 hn HX.out.2.2.1; have hcn := count_to h5 HX.out.2.2.2.1 HX.out.2.2.2.2.1; have HW := hid hW5; clear hW5 h5 H1 H2 hs1 hs2 hlk hr HB))
    refine hcn.mono ?_
    rintro e w5 ⟨rfl, h6, h7⟩
    have HY := hid (And.intro h6 h7)
    clear h6 h7 hcn
    go_wp2_with fail
    go_ret
    refine ⟨rfl, HY.out.1, ?_⟩
    have a1 := HW.out
    have a2 := HY.out.2
    exact ⟨a2.os.trans a1.os, a2.tape.trans a1.tape, a2.output.trans a1.output, Nat.le_trans a1.size a2.size, fun c hc hnc => (a2.block c (Nat.lt_of_lt_of_le hc a1.size) (fun e => hnc (.inl (by cases e; rfl)))).trans (a1.block c hc hnc)⟩
end Go.Proofs.YtpfcopdckjedfaaDoor
