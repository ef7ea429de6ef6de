/- space: setElem, SetElems, SetGlobal. -/
import Derived.Test.YthknmoaffapkhaaSpb
namespace Go.Proofs.Ythknmoaffapkhaa
open Go.RowKit Go.Maps
set_option linter.unusedVariables false

theorem setElem_to {B nb : Nat} {w : World} {S : Spc} {T : List Int} {V : List (Int × Int)} (h : SpAt B w S nb T V) (j : Nat) (hj : j < T.length) (f : Int) (hf : 0 ≤ f ∧ f ≤ 65536) (hnb : nb + 1 ≤ 65536) :
    Calls Try.prog 18 #[spv S, .int .i64 (j : Int), .int .i64 f] w fun e w' => e = .returned (.tuple #[]) ∧ SpAt B w' S (nb + 1) (T.set j f) V ∧ Wr S.bm w w' := by
  obtain ⟨_, c1, _⟩ := h.cells
  obtain ⟨D, hm, hD⟩ := h.map
  have hs := h.small
  have hwf : (Lit.int .i64 f).wf = true := WalkArith.wf_i64 (by omega)
  have hkey := keyOf_int_mk (P := Try.prog) Try.underlying3 (wfI j (by omega))
  have hD2 := hD.put hm.isMap j hj f (by omega)
  have e1 : (f == -1) = false := by simp; omega
  have HH := hid (And.intro h hD2)
  have HF := hid hf
  clear h hD hD2 hs hj hf
  go_enter Try.func18, Try.ntmps18
  go_wp2_with (first
    | (at_mapUpdate; refine wpList_mapUpdate_own _ rfl _ _ _ 58 rfl 3 3 keyedI Try.underlying58 _ S.bm nb D rfl hm (by unfold maxLen; omega) _ _ _ rfl rfl hkey _ [] (plainElem_int Try.underlying3 hwf) ?_; intro w1 hown1 hgrow1)
    | go_in)
  go_end0
  have h := HH.out.1
  have hne := h.neg
  exact ⟨rfl, ⟨by rw [List.length_set]; exact h.blk.grown hgrow1 (by intro e; exact hne.1 (by simpa using e)), ⟨_, hown1, HH.out.2⟩, h.gl.grown hgrow1 (fun g hg e => hne.2.2 (by rw [hg, e])), by rw [List.length_set]; exact h.small, h.vs, hnb, h.hp, h.hb⟩, hgrow1⟩

theorem setElems_nil (off : Int) (v : Value) (hv : v = .slice none 0 0) (w : World) : Calls Try.prog 9 #[.pointer none, .int .i64 off, v] w fun e w' => e = .returned (.bool false) ∧ w = w' := by
  subst hv
  have hh := fun n w => hasElems_nil off n w
  go_enter Try.func9, Try.ntmps9
  go_wp2_with fail
  refine (hh _ _).mono ?_
  rintro e w' ⟨rfl, rfl⟩
  go_wp2_with fail
  go_ret
  exact ⟨rfl, rfl⟩
theorem setElems_no {B nb : Nat} {w : World} {S : Spc} {T : List Int} {V : List (Int × Int)} (h : SpAt B w S nb T V) (off : Int) (ho : off ≤ 9223372036854775807) (ao : Option Addr) (n cap : Nat) (hn : n ≤ 9223372036854775807) (hno : off < 0 ∨ (T.length : Int) - off < n) :
    Calls Try.prog 9 #[spv S, .int .i64 off, .slice ao n cap] w fun e w' => e = .returned (.bool false) ∧ w = w' := by
  have hh := hasElems_to h off n ho
  rw [show decide (0 ≤ off ∧ (n : Int) ≤ (T.length : Int) - off) = false by simp; omega] at hh
  clear h hno
  go_enter Try.func9, Try.ntmps9
  go_wp2_with fail
  refine hh.mono ?_
  rintro e w' ⟨rfl, rfl⟩
  go_wp2_with fail
  go_ret
  exact ⟨rfl, rfl⟩
/-- The table with the functions fs laid from off on. -/
def layT (T : List Int) (off : Nat) (fs : List Int) : List Int := splice T off fs
theorem layT_nil (T : List Int) (off : Nat) : layT T off [] = T := by simp [layT, splice]
theorem layT_len (T : List Int) (off : Nat) (fs : List Int) (h : off + fs.length ≤ T.length) : (layT T off fs).length = T.length := by
  simp [layT, splice]; omega
theorem layT_snoc (T : List Int) (off k : Nat) (fs : List Int) (hk : k < fs.length) (h : off + fs.length ≤ T.length) : (layT T off (fs.take k)).set (off + k) (fs.getD k 0) = layT T off (fs.take (k + 1)) := by
  apply List.ext_getElem?
  intro j
  simp only [layT, splice, List.getElem?_set, List.getElem?_append, List.length_take, List.getElem?_take, List.getElem?_drop, List.length_append, List.length_drop]
  have e1 : min off T.length = off := by omega
  have e2 : min k fs.length = k := by omega
  have e3 : min (k + 1) fs.length = k + 1 := by omega
  simp only [e1, e2, e3]
  by_cases h1 : off + k = j
  · subst h1
    rw [if_pos rfl, if_pos (by omega), if_neg (by omega), if_pos (by omega), if_pos (by omega)]
    simp [List.getD, hk]
  · rw [if_neg h1]
    by_cases h3 : j < off
    · rw [if_pos h3, if_pos h3, if_pos h3]
    · rw [if_neg h3, if_neg h3]
      by_cases h2 : j - off < k
      · rw [if_pos h2, if_pos h2, if_pos (by omega), if_pos (by omega)]
      · rw [if_neg h2, if_neg (by omega)]
        congr 1; omega
set_option maxHeartbeats 1000000 in
theorem setElems_to {B nb : Nat} {w : World} {S : Spc} {T : List Int} {V : List (Int × Int)} (h : SpAt B w S nb T V) (off : Nat) (ao : Option Addr) (cap : Nat) (fs : List Int) (hr : Rd .i64 w ao fs.length cap fs) (hfs : ∀ f ∈ fs, 0 ≤ f ∧ f ≤ 65536) (hno : off + fs.length ≤ T.length) (hnb : nb + 16 ≤ 65536)
    (hne : ∀ ad, ao = some ad → ad.block ≠ S.bm) :
    Calls Try.prog 9 #[spv S, .int .i64 (off : Int), .slice ao fs.length cap] w fun e w' => e = .returned (.bool true) ∧ SpAt B w' S (nb + fs.length) (layT T off fs) V ∧ Wr S.bm w w' := by
  have hs := h.small
  have hh := hasElems_to h off fs.length (by omega)
  rw [show decide (0 ≤ (off : Int) ∧ (fs.length : Int) ≤ (T.length : Int) - off) = true by simp; omega] at hh
  obtain ⟨n, hn⟩ : ∃ n, fs.length = n := ⟨_, rfl⟩
  rw [hn] at hh hr ⊢
  have HN := hid hn
  have HX := hid (And.intro h (And.intro hr (And.intro hfs (And.intro hno hne))))
  have hn16 : n ≤ 16 := by omega
  have ho16 : off ≤ 16 := by omega
  clear h hr hfs hno hne hn hs
  go_enter Try.func9, Try.ntmps9
  go_wp2_with fail
  refine hh.mono ?_
  rintro e w' ⟨rfl, rfl⟩
  clear hh
  go_wp2_with fail
  go_loopw [17] (fun i wr => ∃ k : Nat, k ≤ n ∧ i = .int .i64 k ∧ SpAt B wr S (nb + k) (layT T off (fs.take k)) V ∧ Wr S.bm w wr) (fun i _ => n - (intOf i).toNat)
  case atStart => exact ⟨0, Nat.zero_le _, rfl, by rw [List.take_zero, layT_nil]; exact HX.out.1, Wr.refl _ _⟩
  case round =>
    obtain ⟨k, hk, rfl, hS, hW⟩ := hrel
    by_cases hlt : k < n
    · have hrw := HX.out.2.1.wr hW HX.out.2.2.2.2
      obtain ⟨b, o, rfl, hc⟩ := hrw.at (by omega)
      have hck := hc k hlt
      obtain ⟨f, hf⟩ : ∃ f, fs.getD k 0 = f := ⟨_, rfl⟩
      have hfm := HX.out.2.2.1 f (by rw [← hf]; exact HX.out.2.1.mem hlt)
      have hlen := layT_len T off (fs.take k) (by have := HX.out.2.2.2.1; simp; omega)
      have hset := setElem_to hS (off + k) (by rw [hlen]; have := HX.out.2.2.2.1; have := HN.out; omega) f hfm (by omega)
      rw [show (((off + k : Nat)) : Int) = (off : Int) + k by omega] at hset
      rw [← hf, layT_snoc T off k fs (by rw [HN.out]; exact hlt) HX.out.2.2.2.1, hf] at hset
      rw [hf] at hck
      have hw : IntKind.i64.wrap ((off : Int) + k) = (off : Int) + k := IntWalk.i64_in _ (by omega)
      have HW := hid hW
      have HS := hid hset
      clear hW hset hS hrw hc hf hlen
      go_wp2_with fail
      refine HS.out.mono ?_
      rintro e w2 ⟨rfl, h1, h2⟩
      have H := hid (And.intro h1 h2)
      clear h1 h2
      go_wp2_with fail
      go_roundw
      case rel => exact ⟨k + 1, by omega, by go_num, by rw [← Nat.add_assoc]; exact H.out.1, HW.out.step H.out.2⟩
      case measure => simp [intOf]; omega
    · obtain rfl : k = n := by omega
      have hS2 := hS
      rw [List.take_of_length_le (by rw [HN.out]; exact Nat.le_refl _)] at hS2
      have H := hid (And.intro hS2 hW)
      clear hS hS2 hW
      go_wp2_with fail
      go_ret
      exact ⟨rfl, H.out⟩
end Go.Proofs.Ythknmoaffapkhaa
