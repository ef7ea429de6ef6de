/- slices.Concat of bytes; slices.Grow of nil. The same words as InsPut and WaA: never beside them. -/
import Derived.Test.YtpfcopdckjedfaaDoorKLB
import Derived.Test.YtpfcopdckjedfaaDoorRegionTail
import Derived.Test.YtpfcopdckjedfaaDoorCel
import Derived.Lib.AppendZerosOnto
import Derived.Lib.SliceRun
namespace Go.Proofs.YtpfcopdckjedfaaDoor
open Go.RowKit

theorem take_snoc {l : List Int} {k : Nat} (h : k < l.length) : l.take (k + 1) = l.take k ++ [l.getD k 0] := by
  rw [List.take_succ_eq_append_getElem h]
  simp [List.getD, h]

/-- slices.Grow of nil. -/
theorem grow_nil (n : Nat) (w : World) (hn : n ≤ 1099511627776) :
    Calls Tryd.prog 51 #[.slice none 0 0, .int .i64 n] w fun e w' => ∃ v, e = .returned v ∧ Own 5 .u8 w.heap.size w' v [] ∧ Below w.heap.size w w' := by
  obtain ⟨i0, hi0, hz0, hz1, hz2⟩ := info_parts infoU8
  by_cases h0 : n = 0
  · subst h0
    go_enter Tryd.func51, Tryd.ntmps51
    go_wp2
    go_ret
    exact ⟨_, rfl, Own.nil _ _ _ _, Below.refl _ _⟩
  · have h1 : ¬ ((n : Int) < 0) := by omega
    have h4 : (n : Int) > 0 := by omega
    have hold : (Builtin.firstCells i0.size 0 (.slice none 0 0)).run Tryd.prog w.drew = .ok ([] : List Value).toArray w.drew := run_firstCells_none w.drew i0.size 0 0 0
    have hrz := fun ty => Lib.run_append_grow_zeros (P := Tryd.prog) w 30 3 ty 5 i0 (.int .u8 0) .i64 .i64 Tryd.underlying30 Tryd.underlying3 hi0 hz0 none 0 0 [] hold n (by omega) (by omega) (by omega) (by omega) (by rw [hz2]; omega) (growslice_fits (by omega) (by rw [hz2]; omega))
    simp only [Nat.zero_add] at hrz
    obtain ⟨G, hG⟩ : ∃ G, G = grownCap w n 0 5 := ⟨_, rfl⟩
    have hGn : n ≤ grownCap w n 0 5 := grownCap_ge w _ _ _
    have hG63 := grownCap_le_maxLen w n 0 5 (by unfold maxLen; omega)
    rw [← hG] at hGn hG63
    have HG63 := hid hG63
    unfold maxLen at hG63
    rw [← hG] at hrz
    clear hold hG hz0 hz1 hz2 hi0
    go_enter Tryd.func51, Tryd.ntmps51
    go_wp2_with (at_builtin; refine Lib.wpList_append_run _ rfl _ _ _ _ rfl _ _ rfl rfl _ _ (hrz _) ?_)
    all_goals (go_ret; refine ⟨_, rfl, ⟨?_, fun _ h => by cases h⟩, ?_⟩)
    · exact World.ownsRow_made w _ G (Nat.le_refl _) HG63.out (by simp [size_zeroCells]; omega)
    · exact (Bl.alloc (Bl.refl w) _).drew

/-- A piece among slices. -/
structure Piece where
  ao : Option Addr
  n : Nat
  cap : Nat
  xs : List Int
def Piece.v (p : Piece) : Value := .slice p.ao p.n p.cap
instance : Inhabited Piece := ⟨⟨none, 0, 0, []⟩⟩
def cats : List Piece → List Int
  | [] => []
  | p :: r => p.xs ++ cats r
def lens : List Piece → Nat
  | [] => 0
  | p :: r => p.n + lens r
theorem cats_snoc (p : Piece) : ∀ l, cats (l ++ [p]) = cats l ++ p.xs
  | [] => by simp [cats]
  | q :: r => by simp [cats, cats_snoc p r]
theorem lens_snoc (p : Piece) : ∀ l, lens (l ++ [p]) = lens l + p.n
  | [] => by simp [lens]
  | q :: r => by simp [lens, lens_snoc p r]; omega
theorem lens_take : ∀ (l : List Piece) (k : Nat), lens (l.take k) ≤ lens l
  | [], k => by simp [lens]
  | p :: r, 0 => by simp [lens]
  | p :: r, k + 1 => by have := lens_take r k; simp only [List.take_succ_cons, lens]; omega
theorem take_piece {l : List Piece} {k : Nat} (h : k < l.length) : l.take (k + 1) = l.take k ++ [l.getD k default] := by
  rw [List.take_succ_eq_append_getElem h]
  simp [List.getD, h]
/-- Pieces that lie one behind the other as slices. -/
structure Pieces (w : World) (q off : Nat) (ps : List Piece) : Prop where
  cell : ∀ k, k < ps.length → w.cell? ⟨q, off + k, none⟩ = some (ps.getD k default).v
  rd : ∀ k, k < ps.length → Rd .u8 w (ps.getD k default).ao (ps.getD k default).n (ps.getD k default).cap (ps.getD k default).xs
theorem Pieces.below {w w' : World} {q off : Nat} {ps : List Piece} (h : Pieces w q off ps) (hb : Below w.heap.size w w') : Pieces w' q off ps :=
  ⟨fun k hk => by
    have hc := h.cell k hk
    have hlt := World.block_lt_of_cell? w _ hc
    exact (hb.cell hlt).trans hc, fun k hk => (h.rd k hk).below hb⟩
theorem cats_len (w : World) (q off : Nat) : ∀ (ps : List Piece), (∀ k, k < ps.length → Rd .u8 w (ps.getD k default).ao (ps.getD k default).n (ps.getD k default).cap (ps.getD k default).xs) → (cats ps).length = lens ps
  | [], _ => rfl
  | p :: r, h => by
    have h0 := (h 0 (by simp)).len
    have ih := cats_len w q off r (fun k hk => by have := h (k + 1) (by simpa using hk); simpa [List.getD] using this)
    simp [List.getD] at h0
    simp [cats, lens, ih, h0]

set_option maxHeartbeats 1000000 in
theorem concat_to (q off : Nat) (ps : List Piece) (m : Nat) (w : World) (hm : ps.length = m) (hm1 : m ≤ 1000) (hp : Pieces w q off ps) (hl : lens ps ≤ 1099511627776) :
    Calls Tryd.prog 41 #[.slice (some ⟨q, off, none⟩) m m] w fun e w' => ∃ v, e = .returned v ∧ Own 5 .u8 w.heap.size w' v (cats ps) ∧ Below w.heap.size w w' := by
  have Hm := hid hm
  clear hm
  go_enter Tryd.func41, Tryd.ntmps41
  go_wp2_with fail
  go_loop [3, 5, 11] (fun s x i => ∃ k : Nat, k ≤ m ∧ i = .int .i64 k ∧ ∃ n : Nat, s = .int .i64 n ∧ Hid (n = lens (ps.take k))) (fun _ _ i => m - (intOf i).toNat)
  case atStart => exact ⟨0, Nat.zero_le _, rfl, 0, rfl, by show _ = _; simp [lens]⟩
  case round =>
    obtain ⟨k, hkm, rfl, n, rfl, Hn⟩ := hrel
    have hln := lens_take ps k
    rw [← Hn.out] at hln
    by_cases hk : k < m
    · have hkl : k < ps.length := by rw [Hm.out]; exact hk
      have hck := hp.cell k hkl
      have hs := take_piece hkl
      obtain ⟨⟨ao, c, cap, xs⟩, hpk⟩ : ∃ p, p = ps.getD k default := ⟨_, rfl⟩
      rw [← hpk] at hck hs
      have h2 := lens_take ps (k + 1)
      rw [hs, lens_snoc, ← Hn.out] at h2
      have Hs := hid hs
      simp only [Piece.v] at hck
      simp only at h2
      clear hpk hs
      go_wp2_with fail
      go_round
      case rel => exact ⟨k + 1, by omega, by go_num, n + c, by go_num, by show _ = _; rw [Hs.out, lens_snoc, ← Hn.out]⟩
      case measure => simp [intOf]; omega
    · have e0 : k = m := by omega
      subst e0
      have hl0 : ps.take k = ps := List.take_of_length_le (by rw [Hm.out]; omega)
      have Hn' := hid (show n = lens ps by rw [Hn.out, hl0])
      have hnb : n ≤ 1099511627776 := by omega
      clear hl0 Hn
      go_wp2_with fail
      refine (grow_nil n w hnb).mono ?_
      rintro e w0 ⟨v0, rfl, hv0, hb0⟩
      go_wp2_with fail
      go_loopw [6, 8, 27] (fun v x i wr => ∃ j : Nat, j ≤ k ∧ i = .int .i64 j ∧ Own 5 .u8 w.heap.size wr v (cats (ps.take j)) ∧ Below w.heap.size w wr) (fun _ _ i _ => k - (intOf i).toNat)
      case atStart => exact ⟨0, Nat.zero_le _, rfl, by simpa [cats] using hv0, hb0⟩
      case round =>
        obtain ⟨j, hjk, rfl, hv, hb⟩ := hrel
        have hsz := hb.size
        by_cases hj : j < k
        · have hjl : j < ps.length := by rw [Hm.out]; exact hj
          have hp1 := hp.below hb
          have hcj := hp1.cell j hjl
          have hrj := hp1.rd j hjl
          have hs := take_piece hjl
          have hcl := cats_len wr q off (ps.take j) (fun i hi => by
            have hi' : i < j := by simp at hi; omega
            have := hp1.rd i (by omega)
            simpa [List.getD, hi', show i < ps.length by omega] using this)
          obtain ⟨⟨ao, c, cap, xs⟩, hpj⟩ : ∃ p, p = ps.getD j default := ⟨_, rfl⟩
          rw [← hpj] at hcj hrj hs
          have h2 := lens_take ps (j + 1)
          rw [hs, lens_snoc] at h2
          have h3 := lens_take ps j
          have Hs := hid hs
          simp only [Piece.v] at hcj
          simp only at h2 hrj
          obtain ⟨ys, hys⟩ : ∃ ys, ys = cats (ps.take j) := ⟨_, rfl⟩
          rw [← hys] at hv hcl
          have hyl : ys.length + c ≤ 1099511627776 := by omega
          have Hys := hid hys
          clear hpj hs hcl h2 h3 hys hp1
          go_wp2_with (at_builtin; refine wpList_append_rd rfl (.tmp 31) (.tmp 32) 30 rfl 5 .u8 w.heap.size 1 Tryd.underlying30 infoU8 _ _ rfl hv _ _ _ _ rfl hrj (by omega) (by omega) (by omega) ?_; intro v' w2 h3 h4 _)
          go_roundw
          case rel =>
            refine ⟨j + 1, by omega, by go_num, ?_, hb.trans h4⟩
            rw [Hs.out, cats_snoc, ← Hys.out]
            exact h3
          case measure => simp [intOf]; omega
        · have e0 : j = k := by omega
          subst e0
          have hl0 : ps.take j = ps := List.take_of_length_le (by rw [Hm.out]; omega)
          have Hl := hid hl0
          clear hl0
          go_wp2_with fail
          go_ret
          exact ⟨_, rfl, by rw [Hl.out] at hv; exact hv, hb⟩

/-- Pieces that lie in a block just made. -/
theorem pieces_of {w : World} (ps : List Piece) (h : ∀ p ∈ ps, Rd .u8 w p.ao p.n p.cap p.xs) (T : TypeId) : Pieces (w.alloc (.cells (ps.map Piece.v).toArray T)) w.heap.size 0 ps := by
  have hb := Cel.new w (ps.map Piece.v) T
  refine ⟨fun k hk => ?_, fun k hk => ?_⟩
  · rw [Nat.zero_add]
    exact hb.cell k _ (by simp [List.getD, hk])
  · have hm : ps.getD k default ∈ ps := by
      simp only [List.getD, List.getElem?_eq_getElem hk, Option.getD_some]
      exact List.getElem_mem hk
    exact (h _ hm).below (Bl.alloc (Bl.refl w) _)

end Go.Proofs.YtpfcopdckjedfaaDoor
