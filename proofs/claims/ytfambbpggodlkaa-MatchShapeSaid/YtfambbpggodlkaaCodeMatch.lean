/- code.Match. -/
import Derived.Test.YtfambbpggodlkaaCodeNestB
import Derived.Test.YtfambbpggodlkaaCodeMathB
namespace Go.Proofs.Ytfambbpggodlkaa
open Go.RowKit

def opsI (is : List Ins) : List Int := is.map Ins.op
theorem opsI_len (is : List Ins) : (opsI is).length = is.length := by simp [opsI]
theorem opsI_take (is : List Ins) (k : Nat) : (opsI is).take k = opsI (is.take k) := by simp [opsI, List.map_take]
theorem opsI_getD (is : List Ins) (k : Nat) (h : k < is.length) : (opsI is).getD k 0 = (is.getD k default).op := by simp [opsI, List.getD, h]

/-- What Match answers. -/
def MRes (E : TypeId) (o : Option (List Bk)) (w : World) (e : Ending) (w' : World) : Prop :=
  ∃ v, e = .returned (.tuple #[v, .bool o.isSome]) ∧ OwnC E 3 w.heap.size w' v ((o.getD []).map (bkC 0)) ∧ Below w.heap.size w w'

theorem fits_none {xs : List Int} {k : Nat} (h : runN 0 (xs.take k) nsStart = none) : fits xs = none := by
  unfold fits
  rw [runN_none h]
  split <;> rfl
theorem fits_long {xs : List Int} (h : 300 < xs.length) : fits xs = none := if_pos h
theorem fits_open {xs : List Int} {s : Ns} (h : runN 0 xs nsStart = some s) (ho : 0 < s.op.length) : fits xs = none := by
  unfold fits
  rw [h]
  obtain ⟨bl, op⟩ := s
  cases op with
  | nil => simp at ho
  | cons p r => split <;> rfl
theorem fits_some {xs : List Int} {s : Ns} (h : runN 0 xs nsStart = some s) (ho : s.op.length = 0) (hl : xs.length ≤ 300) : fits xs = some s.bl := by
  unfold fits
  rw [if_neg (by omega), h]
  obtain ⟨bl, op⟩ := s
  cases op with
  | nil => rfl
  | cons p r => simp at ho
theorem run_next {xs : List Int} {s : Ns} {k : Nat} (hk : k < xs.length) (h : runN 0 (xs.take k) nsStart = some s) : runN 0 (xs.take (k + 1)) nsStart = nsStep k (xs.getD k 0) s := by
  have e : xs.take (k + 1) = xs.take k ++ [xs.getD k 0] := by
    rw [List.take_succ_eq_append_getElem hk]; simp [List.getD, hk]
  rw [e, runN_snoc, h]
  simp only [Option.bind_some, Nat.zero_add, List.length_take, Nat.min_eq_left (Nat.le_of_lt hk)]

theorem Nest.below {B p : Nat} {w w' : World} {s : Ns} (h : Nest B w p s) (hb : Below w.heap.size w w') : Nest B w' p s := by
  obtain ⟨vb, vo, hp, hB, h1, h2, n1, n2, n3⟩ := h
  exact ⟨vb, vo, hp.below hb, hB, h1.below hb (Nat.le_refl _), h2.below hb (Nat.le_refl _), n1, n2, n3⟩

theorem match_long (C : Addr → Prop) (ao : Option Addr) (n cap : Nat) (is : List Ins) (w : World) (hr : RdP w C ao n cap is) (h : 300 < n) :
    Calls Try.prog 13 #[.slice ao n cap] w (MRes 32 (fits (opsI is)) w) := by
  have hn63 : n ≤ 9223372036854775807 := by have h1 := hr.le; have h2 := hr.max; unfold maxLen at h2; omega
  rw [fits_long (by rw [opsI_len, hr.len]; exact h)]
  clear hr
  go_enter Try.func13, Try.ntmps13
  go_wp2_with fail
  go_ret2
  exact ⟨_, rfl, OwnC.nil _ _ _ _, Below.refl _ _⟩

set_option maxHeartbeats 1000000 in
theorem match_to (C : Addr → Prop) (ao : Option Addr) (n cap : Nat) (is : List Ins) (w : World) (hr : RdP w C ao n cap is) :
    Calls Try.prog 13 #[.slice ao n cap] w (MRes 32 (fits (opsI is)) w) := by
  by_cases h3 : 300 < n
  · exact match_long C ao n cap is w hr h3
  · have hn3 : n ≤ 300 := by omega
    have hn3' : ¬ ((300 : Int) < n) := by omega
    have Hr := hid hr
    have Hx := hid hr.len
    have HN0 : Hid (Nest w.heap.size (w.alloc (.cells #[.slice none 0 0, .slice none 0 0] 61)) w.heap.size nsStart) :=
      hid ⟨_, _, Pair.new w _ _ _ rfl, Nat.le_refl _, OwnC.nil _ _ _ _, OwnC.nil _ _ _ _, by simp [Value.ownBlock], by simp [Value.ownBlock], by simp [Value.ownBlock]⟩
    clear hr h3
    go_enter Try.func13, Try.ntmps13
    go_wp2_with fail
    go_loopw [12] (fun i wr => ∃ k : Nat, k ≤ n ∧ i = .int .i64 k ∧ ∃ s, runN 0 ((opsI is).take k) nsStart = some s ∧ Nest w.heap.size wr w.heap.size s ∧ Below w.heap.size w wr) (fun i _ => n - (intOf i).toNat)
    case atStart => exact ⟨0, Nat.zero_le _, rfl, nsStart, rfl, HN0.out, Bl.alloc (Bl.refl w) _⟩
    case round =>
      obtain ⟨k, hkn, rfl, s, hs, hN, hb⟩ := hrel
      have HS := hid hs
      have HNE := hid hN
      have HB := hid hb
      clear hs hN hb HN0
      by_cases hk : k < n
      · obtain ⟨b, off, lo, ln, lc, rfl, c0, c1, c2, c3, hrl, _⟩ := (Hr.out.below HB.out).cell k hk
        obtain ⟨⟨op, p, q, l⟩, hI⟩ : ∃ I, I = is.getD k default := ⟨_, rfl⟩
        rw [← hI] at c0 c1 c2 hrl
        simp only at c0 c1 c2 hrl
        have HI := hid hI
        clear hI hrl
        go_wp2_with fail
        have hinv := NsInv.of _ _ rfl _ HS.out
        have htl : ((opsI is).take k).length = k := by rw [List.length_take, opsI_len, Hx.out]; omega
        have hd := hinv.deep
        have hf := hinv.few
        rw [htl] at hf
        refine (take_to w.heap.size w.heap.size s op k _ (HNE.out.below (Bl.alloc (Bl.refl wr) _)) hd (by omega) (fun q hq => (hinv.opn q hq).1)).mono ?_
        rintro e w1 ⟨rfl, hok, hb1⟩
        have hnx := run_next (xs := opsI is) (k := k) (by rw [opsI_len, Hx.out]; exact hk) HS.out
        rw [opsI_getD is k (by rw [Hx.out]; exact hk), ← HI.out] at hnx
        simp only at hnx
        obtain ⟨o, ho⟩ : ∃ o, o = nsStep k op s := ⟨_, rfl⟩
        rw [← ho] at hok hnx ⊢
        have hsz : w.heap.size ≤ wr.heap.size := HB.out.size
        have HB1 := hid ((Below.alloc HB.out hsz (.cells #[.int .i64 op, .int .i64 p, .int .i64 q, .slice lo ln lc] 39)).trans hb1)
        have HOK := hid hok
        have HNX := hid hnx
        clear hinv htl hd hf hok hnx ho hb1 c0 c1 c2 c3 HNE HB HS HI
        cases o with
        | none =>
          have HF := hid (fits_none HNX.out)
          go_wp2_with fail
          go_ret2
          rw [HF.out]
          exact ⟨_, rfl, OwnC.nil _ _ _ _, HB1.out⟩
        | some s' =>
          have HN1 := hid (HOK.out s' rfl)
          clear HOK
          simp only [Option.isSome_some]
          go_wp2_with fail
          go_roundw
          case rel => exact ⟨k + 1, by omega, by go_num, s', HNX.out, HN1.out, HB1.out⟩
          case measure => simp [intOf]; omega
      · have hkn' : k = n := by omega
        subst hkn'
        rw [List.take_of_length_le (by rw [opsI_len, Hx.out]; exact Nat.le_refl _)] at HS
        obtain ⟨bo, bc, oo, oc, hp, hB, hbk, ho, h1, h2, h3, h4, n1, n2, n3, _, _⟩ := HNE.out.shape
        obtain ⟨on, hon⟩ : ∃ on, on = s.op.length := ⟨_, rfl⟩
        obtain ⟨bn, hbn⟩ : ∃ bn, bn = s.bl.length := ⟨_, rfl⟩
        rw [← hon, ← hbn] at hp
        rw [← hbn] at hbk
        rw [← hon] at h3
        have c0 := hp.c0
        have c1 := hp.c1
        have HBK := hid hbk
        have HON := hid hon
        clear hp hbk ho n1 n2 n3 hon hbn HNE hB h1 h2
        by_cases hz : on = 0
        · have HF := hid (fits_some HS.out (by rw [← HON.out]; exact hz) (by rw [opsI_len, Hx.out]; exact hn3))
          subst hz
          go_wp2_with fail
          go_ret2
          rw [HF.out]
          exact ⟨_, rfl, HBK.out, HB.out⟩
        · have HF := hid (fits_open HS.out (by rw [← HON.out]; omega))
          have hz' : 0 < on := by omega
          go_wp2_with fail
          go_ret2
          rw [HF.out]
          exact ⟨_, rfl, OwnC.nil _ _ _ _, HB.out⟩
end Go.Proofs.Ytfambbpggodlkaa
