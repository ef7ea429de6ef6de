/- Instructions to bytes: what stands behind the byte, by the program. -/
import Derived.Test.YtfambbpggodlkaaInsPut
namespace Go.Proofs.Ytfambbpggodlkaa
open Go.RowKit

/-- What a region's operation yields: a slice of the call's own. -/
def IsOwn (E : TypeId) (k : IntKind) (base : Nat) (xs : List Int) : Value → World → Prop := fun v w => Own E k base w v xs
theorem Stays.own (E : TypeId) (k : IntKind) (base : Nat) (xs : List Int) : Stays (IsOwn E k base xs) := fun _ _ _ h hb => Own.below h hb (Nat.le_refl _)

/-- A literal is of the call's own. -/
theorem own_built (w : World) (k : IntKind) (E : TypeId) (xs : List Int) (hn : xs.length ≤ maxLen) (h : ∀ x ∈ xs, (Lit.int k x).wf = true) :
    Own E k w.heap.size (w.alloc (.cells (xs.map (Value.int k)).toArray E)) (.slice (some ⟨w.heap.size, 0, none⟩) xs.length xs.length) xs :=
  ⟨⟨by simp, .inr ⟨w.heap.size, _, _, rfl, Nat.le_refl _, heap_alloc_new w _, Nat.le_refl _, hn, by simp, by simp [List.take_of_length_le]⟩⟩, h⟩

/-- 'append(s, x...)', s full: a new row. -/
theorem run_append_full {P : Program} {w : World} (t ty E : TypeId) (k : IntKind) (bytes : Nat) (ht : P.underlying t = some (.slice E)) (hi : (P.info? E).map (fun i => (i.zero, i.size, i.bytes)) = some (some (.int k 0), 1, bytes))
    (ad ad' : Addr) (n m c : Nat) (xs ys : List Int) (hr : Rd k w (some ad) n n xs) (hr' : Rd k w (some ad') m c ys) (hm : 0 < m) (h63 : n + m ≤ 4611686018427387904) (hbytes : (n + m) * bytes ≤ 140737488355328) :
    ∃ v' w', (Builtin.append_ #[t, t] ty #[.slice (some ad) n n, .slice (some ad') m c]).run P w = .ok v' w' ∧ Own E k w.heap.size w' v' (xs ++ ys) ∧ Below w.heap.size w w' := by
  obtain ⟨i, hi0, hz, hsz, hby⟩ := info_parts hi
  have hr0 := run_append_grow (P := P) w t ty E i (.int k 0) ht hi0 hz ad n n (xs.map (Value.int k)) (by simp [hr.len, hsz]) (hr.news rfl) ad' m c (ys.map (Value.int k)) (by simp [hr'.len, hsz]) (hr'.news rfl) (by omega) (by omega)
    (growslice_fits (by omega) (by rw [hby]; exact hbytes))
  have hge := grownCap_ge w (n + m) n E
  have hcm := grownCap_le_maxLen w (n + m) n E (by unfold maxLen; omega)
  refine ⟨_, _, hr0, ⟨⟨by simp, .inr ⟨w.heap.size, _, _, ?_, Nat.le_refl _, heap_alloc_new w.drew _, ?_, hcm, ?_, ?_⟩⟩, ?_⟩, (Bl.refl w).drew.alloc (Nat.le_refl _) _⟩
  · simp [hr.len, hr'.len]
  · simp only [List.length_append, hr.len, hr'.len]; exact hge
  · have hz1 : (Value.int k 0).cells.size = 1 := rfl
    simp [size_zeroCells, hr.len, hr'.len, hz1]; omega
  · have hl : (xs ++ ys).length * 1 = ((xs ++ ys).map (Value.int k)).length := by simp
    rw [hl]
    simp only [Array.toList_append, List.map_append]
    exact List.take_left
  · intro z hz'
    rcases List.mem_append.1 hz' with hz' | hz'
    · exact hr.wf z hz'
    · exact hr'.wf z hz'

/-- What an instruction asks of its parts. -/
theorem may_parts {op a b : Int} {l : List Int} (h : mayI op a b l = true) : mayAS (sh op) a = true ∧ mayBS (sh op) b = true ∧ mayLS (sh op) l = true := by
  simpa [mayI] using h

set_option maxHeartbeats 1000000 in
theorem operands_3 (op a b : Int) (ao : Option Addr) (n cap : Nat) (w : World) (hs : sh op = 3) (ha : 0 ≤ a ∧ a ≤ 1000) :
    Calls Try.prog 41 #[iv op a b ao n cap] w fun e w' => ∃ v, e = .returned v ∧ Own 5 .u8 w.heap.size w' v (encU 9 a) ∧ Below w.heap.size w w' := by
  have Hs := hid hs
  clear hs
  go_enter Try.func41, Try.ntmps41
  go_wp2_with fail
  refine (shape_to _ _ Hs.out _).mono ?_
  rintro e w1 ⟨rfl, hb⟩
  have hbb := Bl.step (Bl.alloc (Bl.refl w) _) hb
  obtain ⟨hc, hf⟩ := bcell hb
  go_wp2_with fail
  refine (unsigned_to a _ (by omega) (by omega)).mono ?_
  rintro e w2 ⟨v, rfl, hv, hb2⟩
  have hv' := hv.lift hbb.size
  go_wp2_with fail
  go_ret
  exact ⟨_, rfl, hv', Bl.step hbb hb2⟩

set_option maxHeartbeats 1000000 in
theorem operands_2 (op a b : Int) (ao : Option Addr) (n cap : Nat) (w : World) (hs : sh op = 2) :
    Calls Try.prog 41 #[iv op a b ao n cap] w fun e w' => ∃ v, e = .returned v ∧ Own 5 .u8 w.heap.size w' v [resB a] ∧ Below w.heap.size w w' := by
  have Hs := hid hs
  clear hs
  go_enter Try.func41, Try.ntmps41
  go_wp2_with fail
  refine (shape_to _ _ Hs.out _).mono ?_
  rintro e w1 ⟨rfl, hb⟩
  have hbb := Bl.step (Bl.alloc (Bl.refl w) _) hb
  obtain ⟨hc, hf⟩ := bcell hb
  go_wp2_with fail
  refine (resB_to a _).mono ?_
  rintro e w2 ⟨rfl, rfl⟩
  go_wp2_with fail
  go_ret
  refine ⟨_, rfl, (own_built w1 .u8 5 [resB a] (by unfold maxLen; simp) (fun x hx => ?_)).lift hbb.size, Bl.step hbb (Bl.alloc (Bl.refl _) _)⟩
  simp at hx
  subst hx
  unfold resB
  (repeat' split) <;> decide

set_option maxHeartbeats 1000000 in
theorem operands_7 (op a b : Int) (ao : Option Addr) (n cap : Nat) (w : World) (hs : sh op = 7) :
    Calls Try.prog 41 #[iv op a b ao n cap] w fun e w' => ∃ v, e = .returned v ∧ Own 5 .u8 w.heap.size w' v [0] ∧ Below w.heap.size w w' := by
  have Hs := hid hs
  clear hs
  go_enter Try.func41, Try.ntmps41
  go_wp2_with fail
  refine (shape_to _ _ Hs.out _).mono ?_
  rintro e w1 ⟨rfl, hb⟩
  have hbb := Bl.step (Bl.alloc (Bl.refl w) _) hb
  go_wp2_with fail
  go_ret
  refine ⟨_, rfl, (own_built w1 .u8 5 [0] (by unfold maxLen; simp) (fun x hx => ?_)).lift hbb.size, Bl.step hbb (Bl.alloc (Bl.refl _) _)⟩
  simp at hx
  subst hx
  decide

set_option maxHeartbeats 1000000 in
theorem operands_1 (op a b : Int) (ao : Option Addr) (n cap : Nat) (w : World) (hs : sh op = 1) :
    Calls Try.prog 41 #[iv op a b ao n cap] w fun e w' => ∃ v, e = .returned v ∧ Own 5 .u8 w.heap.size w' v [] ∧ Below w.heap.size w w' := by
  have Hs := hid hs
  clear hs
  go_enter Try.func41, Try.ntmps41
  go_wp2_with fail
  refine (shape_to _ _ Hs.out _).mono ?_
  rintro e w1 ⟨rfl, hb⟩
  have hbb := Bl.step (Bl.alloc (Bl.refl w) _) hb
  go_wp2_with fail
  go_ret
  exact ⟨_, rfl, Own.nil _ _ _ _, hbb⟩

set_option maxHeartbeats 1000000 in
theorem operands_89 (op a b s : Int) (ao : Option Addr) (n cap : Nat) (w : World) (hs : sh op = s) (h89 : s = 8 ∨ s = 9) (ha : -9223372036854775808 ≤ a ∧ a ≤ 9223372036854775807) :
    Calls Try.prog 41 #[iv op a b ao n cap] w fun e w' => ∃ v, e = .returned v ∧ Own 5 .u8 w.heap.size w' v (encS 9 a) ∧ Below w.heap.size w w' := by
  have Hs := hid hs
  clear hs
  rcases h89 with rfl | rfl
  all_goals
    go_enter Try.func41, Try.ntmps41
    go_wp2_with fail
    refine (shape_to _ _ Hs.out _).mono ?_
    rintro e w1 ⟨rfl, hb⟩
    have hbb := Bl.step (Bl.alloc (Bl.refl w) _) hb
    obtain ⟨hc, hf⟩ := bcell hb
    go_wp2_with fail
    refine (putS_any none 0 0 [] a _ (Rd.empty _ _) (by omega) ha.1 ha.2).mono ?_
    rintro e w2 ⟨v, rfl, hv, hb2⟩
    have hv' := hv.lift hbb.size
    go_wp2_with fail
    go_ret
    exact ⟨_, rfl, by simpa using hv', Bl.step hbb hb2⟩

set_option maxHeartbeats 1000000 in
theorem operands_5 (op a b : Int) (ao : Option Addr) (n cap : Nat) (w : World) (hs : sh op = 5) (ha : 0 ≤ a ∧ a ≤ 1000) :
    Calls Try.prog 41 #[iv op a b ao n cap] w fun e w' => ∃ v, e = .returned v ∧ Own 5 .u8 w.heap.size w' v (encU 9 a ++ [0]) ∧ Below w.heap.size w w' := by
  have Hs := hid hs
  clear hs
  go_enter Try.func41, Try.ntmps41
  go_wp2_with fail
  refine (shape_to _ _ Hs.out _).mono ?_
  rintro e w1 ⟨rfl, hb⟩
  have hbb := Bl.step (Bl.alloc (Bl.refl w) _) hb
  obtain ⟨hc, hf⟩ := bcell hb
  go_wp2_with fail
  refine (unsigned_to a _ (by omega) (by omega)).mono ?_
  rintro e w2 ⟨v, rfl, hv, hb2⟩
  have hb3 := Bl.step hbb hb2
  have hv' := (hv.lift hbb.size).below (Bl.alloc (Bl.refl w2) (.cells #[.int .u8 0] 5)) (Nat.le_refl _)
  have hxl := encU_len 9 a
  clear hv hc hf
  go_wp2_with (at_builtin; refine wpList_append_rd rfl (.tmp 30) (.tmp 31) 41 rfl 5 .u8 w.heap.size 1 Try.underlying41 infoU8 _ _ rfl hv' _ 1 1 [0] rfl (Rd.built _ _ _ _ (by decide)) (by omega) (by omega) (Bl.alloc hb3 _).size ?_; intro v' w3 h3 h4 _)
  go_ret
  exact ⟨_, rfl, h3, (Bl.alloc hb3 _).trans h4⟩

set_option maxHeartbeats 1000000 in
theorem operands_6 (op p q : Int) (ao : Option Addr) (n cap : Nat) (w : World) (hs : sh op = 6) (ha : 0 ≤ p ∧ p ≤ 3) (hb' : 0 ≤ q ∧ q ≤ 4294967295) :
    Calls Try.prog 41 #[iv op p q ao n cap] w fun e w' => ∃ v, e = .returned v ∧ Own 5 .u8 w.heap.size w' v (encU 9 p ++ encU 9 q) ∧ Below w.heap.size w w' := by
  have Hs := hid hs
  clear hs
  go_enter Try.func41, Try.ntmps41
  go_wp2_with fail
  refine (shape_to _ _ Hs.out _).mono ?_
  rintro e w0 ⟨rfl, hb⟩
  have hbb := Bl.step (Bl.alloc (Bl.refl w) _) hb
  have hca : w0.cell? ⟨w.heap.size, 1, none⟩ = some (.int .i64 p) := by rw [(bcell hb).1 _ _ (by simp)]; simp [World.cell?_alloc_at]
  have hcb : w0.cell? ⟨w.heap.size, 2, none⟩ = some (.int .i64 q) := by rw [(bcell hb).1 _ _ (by simp)]; simp [World.cell?_alloc_at]
  have hlt : w.heap.size < w0.heap.size := by have := hb.size; simp at this; omega
  clear hb
  have hxa := encU_len 9 p
  have hxb := encU_len 9 q
  go_wp2_with fail
  refine wp_region_below_tail 6 (by kernel_rfl) [Is ?vA0, Is (.int .i64 p), IsOwn 5 .u8 w0.heap.size (encU 9 p), Is ?vA3, Is (.int .i64 q), IsRd .u8 (encU 9 q)] [0, 1, 2, 3, 4, 5] rfl (by kernel_rfl) rfl (by kernel_rfl) ?hopA ?hstA ?hendA
  case hopA =>
    refine ⟨⟨⟨_, _, _, _, _, _⟩, _, Is ?vA0, none, [], [(1, .pointer (some ⟨w.heap.size, 0, none⟩))], rfl, rfl, rfl, rfl, rfl, ⟨⟨by kernel_rfl, rfl⟩, trivial⟩, ?_⟩, ?_⟩
    · intro a w1 hC e1
      refine Or.inl ⟨_, ?_, rfl⟩
      go_simp
      first | (go_bits; rfl) | rfl | (rw [if_pos (by omega)])
    refine ⟨⟨⟨_, _, _, _, _, _⟩, _, Is (.int .i64 p), none, [(some 35, Is ?vA0)], [], rfl, rfl, rfl, rfl, rfl, trivial, ?_⟩, ?_⟩
    · intro a w1 hC  (h0 : a.tmps.getD 35 undef = _)
      refine Or.inl ⟨.int .i64 p, ?_, rfl⟩
      have hcw := (hC.cell hlt).trans hca
      go_simp
    refine ⟨⟨⟨_, _, _, _, _, _⟩, _, IsOwn 5 .u8 w0.heap.size (encU 9 p), none, [(some 36, Is (.int .i64 p))], [], rfl, rfl, rfl, rfl, rfl, trivial, ?_⟩, ?_⟩
    · intro a w1 hC  (h1 : a.tmps.getD 36 undef = _)
      refine Or.inr (Or.inl ⟨54, #[.int .i64 p], ?_, ?_⟩)
      · go_simp
      · refine (unsigned_to p w1 (by omega) (by omega)).mono ?_
        rintro e w2 ⟨vv, rfl, hown, hbel⟩
        exact ⟨_, rfl, hown.lift hC.size, hbel⟩
    refine ⟨⟨⟨_, _, _, _, _, _⟩, _, Is ?vA3, none, [], [(1, .pointer (some ⟨w.heap.size, 0, none⟩))], rfl, rfl, rfl, rfl, rfl, ⟨⟨by kernel_rfl, rfl⟩, trivial⟩, ?_⟩, ?_⟩
    · intro a w1 hC e1
      refine Or.inl ⟨_, ?_, rfl⟩
      go_simp
      first | (go_bits; rfl) | rfl | (rw [if_pos (by omega)])
    refine ⟨⟨⟨_, _, _, _, _, _⟩, _, Is (.int .i64 q), none, [(some 38, Is ?vA3)], [], rfl, rfl, rfl, rfl, rfl, trivial, ?_⟩, ?_⟩
    · intro a w1 hC  (h3 : a.tmps.getD 38 undef = _)
      refine Or.inl ⟨.int .i64 q, ?_, rfl⟩
      have hcw := (hC.cell hlt).trans hcb
      go_simp
    refine ⟨⟨⟨_, _, _, _, _, _⟩, _, IsRd .u8 (encU 9 q), none, [(some 39, Is (.int .i64 q)), (some 37, IsOwn 5 .u8 w0.heap.size (encU 9 p))], [], rfl, rfl, rfl, rfl, rfl, trivial, ?_⟩, ?_⟩
    · intro a w1 hC  (h4 : a.tmps.getD 39 undef = _) h2
      refine Or.inr (Or.inl ⟨54, #[.int .i64 q], ?_, ?_⟩)
      · go_simp
      · refine (unsigned_to q w1 (by omega) (by omega)).mono ?_
        rintro e w2 ⟨vv, rfl, hown, hbel⟩
        obtain ⟨ao1, cap1, rfl, hrd⟩ := hown.rd
        exact ⟨_, rfl, ⟨ao1, cap1, rfl, hrd⟩, hbel⟩
    exact trivial
  case hstA => exact ⟨Stays.is _, Stays.is _, Stays.own _ _ _ _, Stays.is _, Stays.is _, Stays.rd _ _, trivial⟩
  case hendA =>
    intro w1 hC
    rintro _ rfl
    rintro _ rfl
    intro x2 h2
    rintro _ rfl
    rintro _ rfl
    intro x5 h5
    obtain ⟨aoq, capq, rfl, hrq⟩ := h5
    simp only [Ends, Act.put, List.setIfInBounds_toArray, List.set_cons_succ, List.set_cons_zero, List.drop_succ_cons, List.drop_zero]
    have hown2 := Own.lift h2 hbb.size
    have sz : w.heap.size ≤ w1.heap.size := Nat.le_trans hbb.size hC.size
    clear h2
    go_wp2_with (at_builtin; refine wpList_append_rd rfl (.tmp 37) (.tmp 40) 41 rfl 5 .u8 w.heap.size 1 Try.underlying41 infoU8 _ _ rfl hown2 aoq _ capq _ rfl hrq (by omega) (by omega) sz ?_; intro v2 w2 h3 h4 _)
    go_ret
    exact ⟨_, rfl, h3, (Bl.step hbb hC).trans h4⟩

set_option maxHeartbeats 1000000 in
theorem operands_4 (op p q : Int) (ao : Option Addr) (n cap : Nat) (l : List Int) (w : World) (hs : sh op = 4) (ha : 0 ≤ p ∧ p ≤ 1000) (hr : Rd .i64 w ao n cap l) (hi : ∀ x ∈ l, 0 ≤ x ∧ x ≤ 1000) (hn : n ≤ 1000) :
    Calls Try.prog 41 #[iv op p q ao n cap] w fun e w' => ∃ v, e = .returned v ∧ Own 5 .u8 w.heap.size w' v (encU 9 n ++ encL l ++ encU 9 p) ∧ Below w.heap.size w w' := by
  have Hs := hid hs
  have Hi := hid hi
  have hxl : (encU 9 (n : Int) ++ encL l).length ≤ 20000 := by
    have h1 := encL_len l
    have h2 := encU_len 9 (n : Int)
    have h3 := hr.len
    simp only [List.length_append]
    omega
  clear hs hi
  go_enter Try.func41, Try.ntmps41
  go_wp2_with fail
  refine (shape_to _ _ Hs.out _).mono ?_
  rintro e w0 ⟨rfl, hb⟩
  have hbb := Bl.step (Bl.alloc (Bl.refl w) _) hb
  have hca : w0.cell? ⟨w.heap.size, 1, none⟩ = some (.int .i64 p) := by rw [(bcell hb).1 _ _ (by simp)]; simp [World.cell?_alloc_at]
  have hcl : w0.cell? ⟨w.heap.size, 3, none⟩ = some (.slice ao n cap) := by rw [(bcell hb).1 _ _ (by simp)]; simp [World.cell?_alloc_at]
  have hlt : w.heap.size < w0.heap.size := by have := hb.size; simp at this; omega
  clear hb
  have hxa := encU_len 9 p
  have Hr := hid (hr.below hbb)
  clear hr
  go_wp2_with fail
  refine wp_region_below_tail 6 (by kernel_rfl) [Is ?vB0, Is (.slice ao n cap), IsOwn 5 .u8 w0.heap.size (encU 9 (n : Int) ++ encL l), Is ?vB3, Is (.int .i64 p), IsRd .u8 (encU 9 p)] [0, 1, 2, 3, 4, 5] rfl (by kernel_rfl) rfl (by kernel_rfl) ?hopB ?hstB ?hendB
  case hopB =>
    refine ⟨⟨⟨_, _, _, _, _, _⟩, _, Is ?vB0, none, [], [(1, .pointer (some ⟨w.heap.size, 0, none⟩))], rfl, rfl, rfl, rfl, rfl, ⟨⟨by kernel_rfl, rfl⟩, trivial⟩, ?_⟩, ?_⟩
    · intro a w1 hC e1
      refine Or.inl ⟨_, ?_, rfl⟩
      go_simp
      first | (go_bits; rfl) | rfl | (rw [if_pos (by omega)])
    refine ⟨⟨⟨_, _, _, _, _, _⟩, _, Is (.slice ao n cap), none, [(some 19, Is ?vB0)], [], rfl, rfl, rfl, rfl, rfl, trivial, ?_⟩, ?_⟩
    · intro a w1 hC  (h0 : a.tmps.getD 19 undef = _)
      refine Or.inl ⟨.slice ao n cap, ?_, rfl⟩
      have hcw := (hC.cell hlt).trans hcl
      go_simp
    refine ⟨⟨⟨_, _, _, _, _, _⟩, _, IsOwn 5 .u8 w0.heap.size (encU 9 (n : Int) ++ encL l), none, [(some 20, Is (.slice ao n cap))], [], rfl, rfl, rfl, rfl, rfl, trivial, ?_⟩, ?_⟩
    · intro a w1 hC  (h1 : a.tmps.getD 20 undef = _)
      refine Or.inr (Or.inl ⟨55, #[.slice ao n cap], ?_, ?_⟩)
      · go_simp
      · refine (list_to ao n cap l w1 (Hr.out.below hC) Hi.out hn).mono ?_
        rintro e w2 ⟨vv, rfl, hown, hbel⟩
        exact ⟨_, rfl, hown.lift hC.size, hbel⟩
    refine ⟨⟨⟨_, _, _, _, _, _⟩, _, Is ?vB3, none, [], [(1, .pointer (some ⟨w.heap.size, 0, none⟩))], rfl, rfl, rfl, rfl, rfl, ⟨⟨by kernel_rfl, rfl⟩, trivial⟩, ?_⟩, ?_⟩
    · intro a w1 hC e1
      refine Or.inl ⟨_, ?_, rfl⟩
      go_simp
      first | (go_bits; rfl) | rfl | (rw [if_pos (by omega)])
    refine ⟨⟨⟨_, _, _, _, _, _⟩, _, Is (.int .i64 p), none, [(some 22, Is ?vB3)], [], rfl, rfl, rfl, rfl, rfl, trivial, ?_⟩, ?_⟩
    · intro a w1 hC  (h3 : a.tmps.getD 22 undef = _)
      refine Or.inl ⟨.int .i64 p, ?_, rfl⟩
      have hcw := (hC.cell hlt).trans hca
      go_simp
    refine ⟨⟨⟨_, _, _, _, _, _⟩, _, IsRd .u8 (encU 9 p), none, [(some 23, Is (.int .i64 p)), (some 21, IsOwn 5 .u8 w0.heap.size (encU 9 (n : Int) ++ encL l))], [], rfl, rfl, rfl, rfl, rfl, trivial, ?_⟩, ?_⟩
    · intro a w1 hC  (h4 : a.tmps.getD 23 undef = _) h2
      refine Or.inr (Or.inl ⟨54, #[.int .i64 p], ?_, ?_⟩)
      · go_simp
      · refine (unsigned_to p w1 (by omega) (by omega)).mono ?_
        rintro e w2 ⟨vv, rfl, hown, hbel⟩
        obtain ⟨ao1, cap1, rfl, hrd⟩ := hown.rd
        exact ⟨_, rfl, ⟨ao1, cap1, rfl, hrd⟩, hbel⟩
    exact trivial
  case hstB => exact ⟨Stays.is _, Stays.is _, Stays.own _ _ _ _, Stays.is _, Stays.is _, Stays.rd _ _, trivial⟩
  case hendB =>
    intro w1 hC
    rintro _ rfl
    rintro _ rfl
    intro x2 h2
    rintro _ rfl
    rintro _ rfl
    intro x5 h5
    obtain ⟨aoq, capq, rfl, hrq⟩ := h5
    simp only [Ends, Act.put, List.setIfInBounds_toArray, List.set_cons_succ, List.set_cons_zero, List.drop_succ_cons, List.drop_zero]
    have hown2 := Own.lift h2 hbb.size
    have sz : w.heap.size ≤ w1.heap.size := Nat.le_trans hbb.size hC.size
    clear h2
    go_wp2_with (at_builtin; refine wpList_append_rd rfl (.tmp 21) (.tmp 24) 41 rfl 5 .u8 w.heap.size 1 Try.underlying41 infoU8 _ _ rfl hown2 aoq _ capq _ rfl hrq (by omega) (by omega) sz ?_; intro v2 w2 h3 h4 _)
    go_ret
    exact ⟨_, rfl, h3, (Bl.step hbb hC).trans h4⟩

/-- What stands behind an instruction's byte. -/
theorem operands_to (op a b : Int) (ao : Option Addr) (n cap : Nat) (l : List Int) (w : World) (h : mayI op a b l = true) (ha : -9223372036854775808 ≤ a ∧ a ≤ 9223372036854775807) (hr : Rd .i64 w ao n cap l) :
    Calls Try.prog 41 #[iv op a b ao n cap] w fun e w' => ∃ v, e = .returned v ∧ Own 5 .u8 w.heap.size w' v (tailI (sh op) a b l) ∧ Below w.heap.size w w' := by
  obtain ⟨h1, h2, h3⟩ := may_parts h
  have hb := sh_bounds op
  obtain ⟨s, hs⟩ : ∃ s, sh op = s := ⟨_, rfl⟩
  rw [hs] at h1 h2 h3 hb ⊢
  have e : s = 0 ∨ s = 1 ∨ s = 2 ∨ s = 3 ∨ s = 4 ∨ s = 5 ∨ s = 6 ∨ s = 7 ∨ s = 8 ∨ s = 9 := by omega
  rcases e with rfl | rfl | rfl | rfl | rfl | rfl | rfl | rfl | rfl | rfl
  · simp [mayAS] at h1
  · exact operands_1 op a b ao n cap w hs
  · exact operands_2 op a b ao n cap w hs
  · exact operands_3 op a b ao n cap w hs (by simpa [mayAS] using h1)
  · have hl : l.length ≤ 50 ∧ ∀ x ∈ l, 0 ≤ x ∧ x ≤ 1000 := by simpa [mayLS, idx] using h3
    refine (operands_4 op a b ao n cap l w hs (by simpa [mayAS] using h1) hr hl.2 (by rw [← hr.len]; omega)).mono ?_
    rintro e w' ⟨v, rfl, hv, hb⟩
    refine ⟨v, rfl, ?_, hb⟩
    rw [List.append_assoc, ← hr.len] at hv
    exact hv
  · exact operands_5 op a b ao n cap w hs (by simpa [mayAS] using h1)
  · exact operands_6 op a b ao n cap w hs (by simpa [mayAS] using h1) (by simpa [mayBS] using h2)
  · exact operands_7 op a b ao n cap w hs
  · exact operands_89 op a b 8 ao n cap w hs (.inl rfl) ha
  · exact operands_89 op a b 9 ao n cap w hs (.inr rfl) ha
end Go.Proofs.Ytfambbpggodlkaa
