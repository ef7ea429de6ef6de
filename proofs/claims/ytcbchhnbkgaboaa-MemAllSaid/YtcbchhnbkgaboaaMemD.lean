/- mem: Dirty. -/
import Derived.Test.YtcbchhnbkgaboaaMemP
namespace Go.Proofs.Ytcbchhnbkgaboaa
open Go.RowKit

/-- The touched pages ahead of page k. -/
def dirtyK (d : List Bool) (k : Nat) : List Int := ((List.range k).filter (d.getD · false)).map Int.ofNat
theorem dirtyK_yes (d : List Bool) (k : Nat) (h : d.getD k false = true) : dirtyK d (k + 1) = dirtyK d k ++ [(k : Int)] := by
  simp only [dirtyK, List.range_succ, List.filter_append, List.map_append, List.filter_cons, h, if_true, List.filter_nil, List.map_cons, List.map_nil]
  rfl
theorem dirtyK_no (d : List Bool) (k : Nat) (h : d.getD k false = false) : dirtyK d (k + 1) = dirtyK d k := by
  simp only [dirtyK, List.range_succ, List.filter_append, List.map_append, List.filter_cons, h, List.filter_nil]
  simp
theorem dirtyK_len (d : List Bool) (k : Nat) : (dirtyK d k).length ≤ k := by
  have := List.length_filter_le (fun x => d.getD x false) (List.range k)
  simpa [dirtyK] using this
theorem dirty_nil (w : World) : Calls Try.prog 21 #[.pointer none] w fun e w' => e = .returned (.slice none 0 0) ∧ w = w' := by
  go_enter Try.func21, Try.ntmps21
  go_wp2_with fail
  refine (pages_nil _).mono ?_
  rintro e w' ⟨rfl, rfl⟩
  go_wp2_with fail
  go_loop [3, 7] (fun v i => v = .slice none 0 0 ∧ i = .int .i64 0) (fun _ _ => 0)
  case atStart => exact ⟨rfl, rfl⟩
  case round =>
    obtain ⟨rfl, rfl⟩ := hrel
    go_wp2_with fail
    go_ret
    exact ⟨rfl, rfl⟩
set_option maxHeartbeats 1000000 in
theorem dirty_to (g : Nat) (M : MM) (w : World) (hM : MemAt w g M) :
    Calls Try.prog 21 #[.pointer (some ⟨g, 0, none⟩)] w fun e w' => ∃ v, e = .returned v ∧ Own 3 .i64 w.heap.size w' v (dirtyK M.d M.p) ∧ Below w.heap.size w w' := by
  have hp := hM.ok.pl
  have h1 := pages_to g M w hM
  have HM := hid hM
  clear hM
  go_enter Try.func21, Try.ntmps21
  go_wp2_with fail
  refine h1.mono ?_
  rintro e w' ⟨rfl, rfl⟩
  clear h1
  go_wp2_with fail
  go_loopw [3, 7] (fun v i wr => ∃ k : Nat, k ≤ M.p ∧ i = .int .i64 k ∧ Own 3 .i64 w.heap.size wr v (dirtyK M.d k) ∧ Below w.heap.size w wr) (fun _ i _ => M.p - (intOf i).toNat)
  case atStart => exact ⟨0, Nat.zero_le _, rfl, Own.nil _ _ _ _, Bl.refl _⟩
  case round =>
    obtain ⟨k, hk, rfl, hO, hB⟩ := hrel
    by_cases hlt : k < M.p
    · have hc := (HM.out.bl hB).cd k (by omega)
      have hdl := dirtyK_len M.d k
      obtain ⟨n, hn⟩ : ∃ n, (dirtyK M.d k).length = n := ⟨_, rfl⟩
      rw [hn] at hdl
      have HN := hid hn
      have HO := hid hO
      have HB := hid hB
      have hsz := hB.size
      clear hO hB hn
      cases hd : M.d.getD k false with
      | false =>
        rw [hd] at hc
        have hs := dirtyK_no M.d k hd
        have HS := hid hs
        clear hs hd
        go_wp2_with fail
        go_roundw
        case rel => exact ⟨k + 1, by omega, by go_num, by rw [HS.out]; exact HO.out, HB.out⟩
        case measure => simp [intOf]; omega
      | true =>
        rw [hd] at hc
        have hs := dirtyK_yes M.d k hd
        have HS := hid hs
        clear hs hd
        go_wp2_with (at_builtin; apply stopHere)
        refine hid ?_
        refine wpList_append_rd rfl (.tmp 16) (.tmp 18) 41 rfl 3 .i64 w.heap.size 8 Try.underlying41 info3 _ _ rfl (HO.out.alloc _) _ 1 1 [(k : Int)] rfl (Rd.built _ .i64 3 k (WalkArith.wf_i64 (by omega))) (by rw [HN.out]; omega) (by rw [HN.out]; omega) (by simp; omega) ?_
        intro v w2 g1 g2 _
        have H := hid (And.intro g1 ((Below.alloc HB.out hsz (.cells #[.int .i64 (k : Int)] 3)).trans g2))
        clear g1 g2 hc hsz
        go_wp2_with fail
        go_roundw
        case rel => exact ⟨k + 1, by omega, by go_num, by rw [HS.out]; exact H.out.1, H.out.2⟩
        case measure => simp [intOf]; omega
    · obtain rfl : k = M.p := by omega
      have H := hid (And.intro hO hB)
      clear hO hB
      go_wp2_with fail
      go_ret
      exact ⟨_, rfl, H.out⟩
end Go.Proofs.Ytcbchhnbkgaboaa
