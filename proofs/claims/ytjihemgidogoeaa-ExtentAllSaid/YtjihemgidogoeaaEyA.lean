/- extent's program side: Index, Contains, Free. -/
import Derived.Test.YtjihemgidogoeaaEyW
namespace Go.Proofs.Ytjihemgidogoeaa
open Go.RowKit
set_option linter.unusedVariables false
set_option maxRecDepth 100000

/-- slices.Index of bools: whether one is there is all that is asked. -/
theorem indexB_to (ao : Option Addr) (n cap : Nat) (l : List Bool) (b : Bool) (w : World) (h : RdB w ao n cap l) (hn : n ≤ 4096) :
    Calls Try.prog 26 #[.slice ao n cap, .bool b] w fun e w' => ∃ x : Int, e = .returned (.int .i64 x) ∧ w = w' ∧ decide (0 ≤ x) = l.contains b := by
  have hcap := h.cap63
  have hle := h.le
  have hl := h.len
  have HC := hid h.cell
  have hnil : ∀ j, j < n → ∃ ad, ao = some ad := fun j hj => by
    cases ao with
    | none => have := h.nil rfl; omega
    | some ad => exact ⟨ad, rfl⟩
  have HN := hid hnil
  have HL := hid hl
  clear h hnil hl
  go_enter Try.func26, Try.ntmps26
  go_wp2_with fail
  go_loopw [8] (fun i wr => ∃ k : Nat, k ≤ n ∧ i = .int .i64 k ∧ wr = w ∧ ∀ j, j < k → l.getD j false ≠ b) (fun i _ => n - (intOf i).toNat)
  case atStart => exact ⟨0, Nat.zero_le _, rfl, rfl, fun j hj => by omega⟩
  case round =>
    obtain ⟨k, hk, rfl, rfl, hno⟩ := hrel
    have HNO := hid hno
    clear hno
    by_cases hlt : k < n
    · obtain ⟨ad, rfl⟩ := HN.out k hlt
      have hc := HC.out ad rfl k hlt
      have hli : (k : Int) < n := by omega
      obtain ⟨x, hx⟩ : ∃ x, l.getD k false = x := ⟨_, rfl⟩
      rw [hx] at hc
      have HX := hid hx
      clear hx
      by_cases hxb : b = x
      · have hd : (b == x) = true := by simpa using hxb
        go_wp2_with fail
        go_ret
        refine ⟨_, rfl, rfl, ?_⟩
        rw [show l.contains b = true by rw [List.contains_iff_mem, hxb, ← HX.out, List.getD_eq_getElem?_getD, List.getElem?_eq_getElem (by rw [HL.out]; exact hlt)]; exact List.getElem_mem _]
        simp
      · have hd : (b == x) = false := by simpa using hxb
        go_wp2_with fail
        go_roundw
        case rel => exact ⟨k + 1, by omega, by go_num, trivial, fun j hj => by
          by_cases hjk : j = k
          · rw [hjk, HX.out]; exact fun e => hxb e.symm
          · exact HNO.out j (by omega)⟩
        case measure => simp [intOf]; omega
    · obtain rfl : k = n := by omega
      go_wp2_with fail
      go_ret
      refine ⟨_, rfl, rfl, ?_⟩
      symm
      rw [show decide ((0 : Int) ≤ -1) = false by decide, Bool.eq_false_iff]
      intro hc
      rw [List.contains_iff_mem] at hc
      obtain ⟨j, hj, e⟩ := List.getElem_of_mem hc
      refine HNO.out j (by rw [← HL.out]; exact hj) ?_
      rw [List.getD_eq_getElem?_getD, List.getElem?_eq_getElem hj]
      exact e
theorem contains_to (ao : Option Addr) (n cap : Nat) (l : List Bool) (b : Bool) (w : World) (h : RdB w ao n cap l) (hn : n ≤ 4096) :
    Calls Try.prog 23 #[.slice ao n cap, .bool b] w fun e w' => e = .returned (.bool (l.contains b)) ∧ w = w' := by
  have hi := indexB_to ao n cap l b w h hn
  have HI := hid hi
  clear hi h
  go_enter Try.func23, Try.ntmps23
  go_wp2_with fail
  refine HI.out.mono ?_
  rintro e w' ⟨x, rfl, rfl, hx⟩
  go_wp2_with fail
  go_ret
  exact ⟨by simp, rfl⟩

theorem exFree_to (A : Nat → Prop) (M : Rm) (p : Addr) (w : World) (h : exAt A M p w) : Calls Try.prog 16 #[.pointer (some p)] w fun e w' => e = .returned (.int .i64 M.free) ∧ Below w.heap.size w w' := by
  obtain ⟨b, v, rfl, hR, -, -, -⟩ := h
  obtain ⟨ao, n, cap, rfl, hn, hn2, hnc, hcap, c0, c1, hf, -⟩ := hR.facts
  have HC := hid hf.cell
  have hnil : ∀ j, j < n → ∃ ad, ao = some ad := fun j hj => by
    cases ao with
    | none => have := hf.nil rfl; omega
    | some ad => exact ⟨ad, rfl⟩
  have HN := hid hnil
  have HM : Hid (M.free = M.fr.count true) := hid rfl
  obtain ⟨F, hF⟩ : ∃ F, M.fr = F := ⟨_, rfl⟩
  rw [hF] at HC HM hn
  have HL := hid hn
  clear hR hf hnil hF hn
  go_enter Try.func16, Try.ntmps16
  go_wp2_with fail
  go_loopw [3, 13] (fun c i wr => ∃ k : Nat, k ≤ n ∧ i = .int .i64 k ∧ c = .int .i64 ((F.take k).count true : Nat) ∧ wr = w) (fun _ i _ => n - (intOf i).toNat)
  case atStart => exact ⟨0, Nat.zero_le _, rfl, by simp, rfl⟩
  case round =>
    obtain ⟨k, hk, rfl, rfl, rfl⟩ := hrel
    obtain ⟨ct, hct⟩ : ∃ ct, (F.take k).count true = ct := ⟨_, rfl⟩
    have hct2 : ct ≤ n := by rw [← hct]; exact Nat.le_trans List.count_le_length (by rw [List.length_take, HL.out]; omega)
    rw [hct]
    have HCT := hid hct
    clear hct
    by_cases hlt : k < n
    · obtain ⟨ad, rfl⟩ := HN.out k hlt
      have hc := HC.out ad rfl k hlt
      have hli : (k : Int) < n := by omega
      have hstep := count_step (F := F) (k := k) (by rw [HL.out]; exact hlt)
      rw [HCT.out] at hstep
      cases hb : F.getD k false with
      | false =>
        rw [hb] at hc hstep
        rw [if_neg (by decide)] at hstep
        have HST := hid hstep
        clear hstep hb
        go_wp2_with fail
        go_roundw
        case rel => exact ⟨k + 1, by omega, by go_num, by rw [HST.out]; rfl, trivial⟩
        case measure => simp [intOf]; omega
      | true =>
        rw [hb] at hc hstep
        rw [if_pos rfl] at hstep
        have HST := hid hstep
        clear hstep hb
        go_wp2_with fail
        go_roundw
        case rel => exact ⟨k + 1, by omega, by go_num, by rw [HST.out]; rfl, trivial⟩
        case measure => simp [intOf]; omega
    · obtain rfl : k = n := by omega
      have e : ct = M.free := by rw [← HCT.out, List.take_of_length_le (by rw [HL.out]; exact Nat.le_refl _)]; exact HM.out.symm
      subst e
      go_wp2_with fail
      go_ret
      exact ⟨rfl, Below.refl _ _⟩
theorem exFree_nil (w : World) : Calls Try.prog 16 #[.pointer none] w fun e w' => e = .returned (.int .i64 0) ∧ Below w.heap.size w w' := by
  go_enter Try.func16, Try.ntmps16
  go_wp2_with fail
  go_ret
  exact ⟨rfl, Below.refl _ _⟩
end Go.Proofs.Ytjihemgidogoeaa
