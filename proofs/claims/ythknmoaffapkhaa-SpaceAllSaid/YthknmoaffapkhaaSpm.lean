/- space's laws: SpaceAll: its argument of operations; same. -/
import Derived.Test.YthknmoaffapkhaaSpl
import Derived.Test.YthknmoaffapkhaaRowsS
namespace Go.Proofs.Ythknmoaffapkhaa
open Go.RowKit Go.Maps Go.ChangeShapes Go.WideShapes Go.Deep
set_option linter.unusedVariables false

/-- An operation: its numbers, its list of functions as it is read. -/
structure OpM where
  kd : Int
  n : Int
  fo : Option Addr
  fl : Nat
  fc : Nat
  fs : List Int
  vk : Int
  vn : Int
instance : Inhabited OpM := ⟨⟨0, 0, none, 0, 0, [], 0, 0⟩⟩
def OpM.cells (o : OpM) : List Value := [.int .i64 o.kd, .int .i64 o.n, .slice o.fo o.fl o.fc, .int .i64 o.vk, .int .i64 o.vn]
structure OpM.ok (w : World) (o : OpM) : Prop where
  n1 : (Lit.int .i64 o.n).wf = true
  v1 : (Lit.int .i64 o.vn).wf = true
  fs : Rd .i64 w o.fo o.fl o.fc o.fs
/-- A slice of operations that is read. -/
structure RdO (w : World) (ao : Option Addr) (n cap : Nat) (os : List OpM) : Prop where
  len : os.length = n
  le : n ≤ cap
  max : cap ≤ maxLen
  cell : ∀ i, i < n → ∃ b off, ao = some ⟨b, off, none⟩ ∧ (∀ j u, (os.getD i default).cells[j]? = some u → w.cell? ⟨b, off + i * 5 + j, none⟩ = some u) ∧ OpM.ok w (os.getD i default)

theorem cells_op : Try.prog.cellsOf 45 = 5 := by kernel_rfl
theorem cells_val : Try.prog.cellsOf 39 = 2 := by kernel_rfl
section
variable {H : Type} {enc : TypeId × Value → H} {w : World} {base : Nat} {spare : Nat → Bool} {held : Bool}
theorem open_list {fuel : Nat} {cs : List Value} {x : DataW H × List MemPlace} (h : DataW.trod enc Try.prog w base spare held fuel 29 cs = some x) : ∃ lo ln lc l, cs = [.slice lo ln lc] ∧ Rd .i64 w lo ln lc l := by
  rcases open_ints Try.underlying29 Try.underlying3 (by kernel_rfl) h with ⟨rfl, _⟩ | ⟨a, len, cap, zs, rfl, _, hl, hm, hz, _, hcell, hwz⟩
  · exact ⟨none, 0, 0, [], rfl, Rd.empty _ _⟩
  · have hle : len ≤ zs.length := by rw [hz]; split <;> omega
    refine ⟨some a, len, cap, zs.take len, rfl, by simp; omega, hl, hm, (fun h => by cases h), (fun ad ha i hi => ?_), fun x hx => hwz x (List.mem_of_mem_take hx)⟩
    cases ha
    rw [hcell i (by omega)]
    simp [List.getD, hi]
theorem open_val {fuel : Nat} {cs : List Value} {x : DataW H × List MemPlace} (h : DataW.trod enc Try.prog w base spare held fuel 39 cs = some x) : ∃ k n, cs = [.int .i64 k, .int .i64 n] ∧ (Lit.int .i64 n).wf = true := by
  obtain ⟨y0, y1, m, _, hl, h0, h1⟩ := trod_struct2 Try.underlying39 h
  rw [cells_val] at hl
  match cs, hl with
  | [c0, c1], _ =>
    have e0 : Try.prog.cellsOf 3 = 1 := by kernel_rfl
    have e1 : Try.prog.cellsOf 2 = 1 := by kernel_rfl
    simp [e0, e1] at h0 h1
    obtain ⟨k, q0, _, _⟩ := DataW.trod_int Try.underlying3 h0
    obtain ⟨n, q1, _, hw⟩ := DataW.trod_int Try.underlying2 h1
    simp only [List.cons.injEq, and_true] at q0 q1
    exact ⟨k, n, by rw [q0, q1], hw⟩
theorem open_op {fuel : Nat} {cs : List Value} {x : DataW H × List MemPlace} (h : DataW.trod enc Try.prog w base spare held fuel 45 cs = some x) : ∃ o : OpM, cs = o.cells ∧ o.ok w := by
  obtain ⟨ys, m, _, _, hl, hyl, hf⟩ := DataW.trod_struct Try.underlying45 h
  rw [cells_op] at hl
  match cs, hl, ys, hyl with
  | [c0, c1, c2, c3, c4], _, [y0, y1, y2, y3], _ =>
    have h0 := hf 0 _ rfl
    have h1 := hf 1 _ rfl
    have h2 := hf 2 _ rfl
    have h3 := hf 3 _ rfl
    have e0 : Try.prog.cellsOf 3 = 1 := by kernel_rfl
    have e2 : Try.prog.cellsOf 29 = 1 := by kernel_rfl
    simp [e0, e2, cells_val] at h0 h1 h2 h3
    obtain ⟨kd, q0, _, _⟩ := DataW.trod_int Try.underlying3 h0
    obtain ⟨n, q1, _, hw1⟩ := DataW.trod_int Try.underlying3 h1
    obtain ⟨fo, fl, fc, fs, q2, hr⟩ := open_list h2
    obtain ⟨vk, vn, q3, hw2⟩ := open_val h3
    simp only [List.cons.injEq, and_true] at q0 q1 q2 q3
    exact ⟨⟨kd, n, fo, fl, fc, fs, vk, vn⟩, by rw [q0, q1, q2, q3.1, q3.2]; rfl, hw1, hw2, hr⟩
theorem open_ops {fuel : Nat} {cs : List Value} {x : DataW H × List MemPlace} (h : DataW.trod enc Try.prog w base spare held fuel 23 cs = some x) :
    ∃ ao n cap os, cs = [.slice ao n cap] ∧ RdO w ao n cap os := by
  rcases open_slice Try.underlying23 h with ⟨rfl, _⟩ | ⟨a, len, cap, m, n, D, Pl, rfl, _, hl, hm, hmm, _, hi⟩
  · exact ⟨none, 0, 0, [], rfl, rfl, Nat.le_refl _, Nat.zero_le _, fun i hi => absurd hi (Nat.not_lt_zero _)⟩
  · have hlm : len ≤ m := by rw [hmm]; split <;> omega
    have key : ∀ i : Nat, ∃ p : OpM, i < len → (∀ j v, p.cells[j]? = some v → w.cell? ((a.add (i * 5)).add j) = some v) ∧ p.ok w := by
      intro i
      by_cases hil : i < len
      · obtain ⟨cs', hc, ht⟩ := hi i (by omega)
        rw [cells_op] at hc
        obtain ⟨p, rfl, hok⟩ := open_op ht
        refine ⟨p, fun _ => ⟨fun j v hj => ?_, hok⟩⟩
        obtain ⟨_, _, hcell⟩ := World.cells?_some hc
        rw [hcell j (by have := (List.getElem?_eq_some_iff.1 hj).1; simpa [OpM.cells] using this), hj]
      · exact ⟨default, fun h => absurd h hil⟩
    obtain ⟨f, hf⟩ := Classical.axiomOfChoice key
    have hget : ∀ i, i < len → ((List.range len).map f).getD i default = f i := by
      intro i hil
      simp [List.getD, hil]
    refine ⟨some a, len, cap, (List.range len).map f, rfl, by simp, hl, hm, fun i hil => ?_⟩
    obtain ⟨hc, hok⟩ := hf i hil
    have hspot : a.spot = none := by
      have h0 := (hf 0 (by omega)).1 0 _ rfl
      simpa [Addr.add] using World.cell?_spot h0
    obtain ⟨b, off, spot⟩ := a
    simp only at hspot
    subst hspot
    rw [hget i hil]
    exact ⟨b, off, rfl, fun j u hj => by have := hc j u hj; simpa only [Addr.add_lit] using this, hok⟩
end

theorem RdC.cap63 {s n cap : Nat} {w : World} {ao : Option Addr} {rs : List (List Value)} (h : RdC s w ao n cap rs) : cap ≤ 9223372036854775807 := by have := h.max; unfold maxLen at this; omega
set_option maxHeartbeats 1000000 in
/-- Two slices of the same values are the same. -/
theorem same_to (ao ao' : Option Addr) (n cap cap' : Nat) (V : List (Int × Int)) (w : World) (h : RdC 2 w ao n cap (V.map vc)) (h' : RdC 2 w ao' n cap' (V.map vc)) :
    Calls Try.prog 16 #[.slice ao n cap, .slice ao' n cap'] w fun e w' => e = .returned (.bool true) ∧ Below w.heap.size w w' := by
  have hn63 : n ≤ 9223372036854775807 := by have := h.le; have := h.cap63; omega
  have hl := h.len
  rw [List.length_map] at hl
  have HX := hid (And.intro h (And.intro h' hl))
  clear h h' hl
  go_enter Try.func16, Try.ntmps16
  go_wp2_with fail
  go_loopw [5] (fun i wr => ∃ k : Nat, k ≤ n ∧ i = .int .i64 k ∧ Below w.heap.size w wr) (fun i _ => n - (intOf i).toNat)
  case atStart => exact ⟨0, Nat.zero_le _, rfl, Below.refl _ _⟩
  case round =>
    obtain ⟨k, hk, rfl, hb⟩ := hrel
    by_cases hlt : k < n
    · obtain ⟨b, off, rfl, hc⟩ := (HX.out.1.below hb).cell k hlt
      obtain ⟨b', off', rfl, hc'⟩ := (HX.out.2.1.below hb).cell k hlt
      rw [vc_get V k (by rw [HX.out.2.2]; exact hlt)] at hc hc'
      obtain ⟨x, hx⟩ : ∃ x, V.getD k (0, 0) = x := ⟨_, rfl⟩
      rw [hx] at hc hc'
      have a0 := hc 0 _ rfl
      have a1 := hc 1 _ rfl
      have b0 := hc' 0 _ rfl
      have b1 := hc' 1 _ rfl
      rw [Nat.add_zero] at a0 b0
      have HB := hid hb
      clear hc hc' hx hb
      go_wp2_with fail
      go_quiet (fail)
      go_wp2_with fail
      go_roundw
      case rel => exact ⟨k + 1, by omega, by go_num, HB.out.trans (below_drewN _ _ _)⟩
      case measure => simp [intOf]; omega
    · have HB := hid hb
      clear hb
      go_wp2_with fail
      go_ret
      exact ⟨rfl, HB.out⟩
end Go.Proofs.Ythknmoaffapkhaa
