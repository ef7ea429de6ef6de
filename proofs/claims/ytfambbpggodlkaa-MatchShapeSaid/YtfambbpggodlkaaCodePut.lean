/- code.Put, diapauseref5.PutBody. -/
import Derived.Test.YtfambbpggodlkaaInsMs
import Derived.Test.YtfambbpggodlkaaInsPuts
namespace Go.Proofs.Ytfambbpggodlkaa
open Go.RowKit

theorem encMs_le (is : List Ins) (k n : Nat) (hk : k ≤ n) (hn : n ≤ 1000) (hm : ∀ I ∈ is, mayII I = true) : (encMs (is.take k)).length ≤ 20001000 := by
  have h1 := encMs_len (is.take k) (fun I h => hm I (List.mem_of_mem_take h))
  have h2 : (is.take k).length ≤ k := by rw [List.length_take]; omega
  have h3 : (is.take k).length * 20001 ≤ 1000 * 20001 := Nat.mul_le_mul_right _ (by omega)
  omega

set_option maxHeartbeats 1000000 in
theorem putBody_to (bo : Option Addr) (m bc : Nat) (bs : List Int) (C : Addr → Prop) (ao : Option Addr) (n cap : Nat) (is : List Ins) (w : World) (hbs : Rd .u8 w bo m bc bs) (hr : RdP w C ao n cap is) (hn : n ≤ 1000) (hm : m ≤ 1000000000) (hmay : ∀ I ∈ is, mayII I = true) :
    Calls Try.prog 20 #[.slice bo m bc, .slice ao n cap] w fun e w' => ∃ v, e = .returned v ∧ Own 5 .u8 w.heap.size w' v (bs ++ encMs is ++ [11]) ∧ Below w.heap.size w w' := by
  have Hr := hid hr
  have Hx := hid hr.len
  have HM := hid hmay
  have Hbs := hid hbs
  have hbl : bs.length ≤ 1000000000 := by rw [hbs.len]; exact hm
  clear hr hmay hbs
  go_enter Try.func20, Try.ntmps20
  go_wp2_with (first
    | (at_builtin; refine wpList_append_rd rfl (.const (.slice none 0 0)) (.tmp 8) 41 rfl 5 .u8 w.heap.size 1 Try.underlying41 infoU8 _ [] rfl (Own.nil _ _ _ _) bo m bc bs rfl Hbs.out (by simp; omega) (by simp; omega) (Nat.le_refl _) ?_; intro v1 w1 o1 b1 _; have HO1 := hid o1; have HB1 := hid b1; clear o1 b1)
    | fail)
  simp only [List.nil_append] at HO1
  go_loopw [5, 12] (fun v i wr => ∃ k : Nat, k ≤ n ∧ i = .int .i64 k ∧ Own 5 .u8 w.heap.size wr v (bs ++ encMs (is.take k)) ∧ Below w.heap.size w wr) (fun _ i _ => n - (intOf i).toNat)
  case atStart => exact ⟨0, Nat.zero_le _, rfl, by simpa [encMs] using HO1.out, HB1.out⟩
  case round =>
    obtain ⟨k, hkn, rfl, ho, hb⟩ := hrel
    have HO := hid ho
    have HB := hid hb
    have hsz := hb.size
    clear ho hb HO1 HB1
    have hel := encMs_le is k n hkn hn HM.out
    obtain ⟨ys, hys⟩ : ∃ ys, ys = bs ++ encMs (is.take k) := ⟨_, rfl⟩
    have hyl : ys.length ≤ 1020001000 := by rw [hys, List.length_append]; omega
    rw [← hys] at HO
    have HYS := hid hys
    clear hys hel
    obtain ⟨yo, yc, rfl, hry⟩ := HO.out.rd
    have HRY := hid hry
    clear hry
    by_cases hk : k < n
    · obtain ⟨b, off, lo, ln, lc, rfl, c0, c1, c2, c3, hrl, _⟩ := (Hr.out.below HB.out).cell k hk
      have hs := take_ins (is := is) (k := k) (by rw [Hx.out]; exact hk)
      have hok := Hr.out.ok k hk
      have hmay : mayII (is.getD k default) = true := by
        refine HM.out _ ?_
        simp only [List.getD, List.getElem?_eq_getElem (show k < is.length by rw [Hx.out]; exact hk), Option.getD_some]
        exact List.getElem_mem _
      obtain ⟨⟨op, p, q, l⟩, hI⟩ : ∃ I, I = is.getD k default := ⟨_, rfl⟩
      rw [← hI] at c0 c1 c2 hrl hs hok hmay
      simp only at c0 c1 c2 hrl
      have hp : -9223372036854775808 ≤ p ∧ p ≤ 9223372036854775807 := hok
      have Hs := hid hs
      have Hrl := hid hrl
      have HT : Hid (mayI op p q l = true) := hid hmay
      have hpl := tailI_len (sh op) p q l (Nat.le_trans (may_len HT.out) (by decide))
      clear hI hs hrl hok hmay
      go_wp2_with fail
      refine (put_to none 0 0 [] op p q lo ln lc l _ HT.out hp (Rd.empty _ _) (by decide) (Hrl.out.below (Bl.alloc (Bl.refl wr) _))).mono ?_
      rintro e w2 ⟨v, rfl, hv, hb⟩
      rw [List.nil_append] at hv
      obtain ⟨el, hel⟩ : ∃ el, el = encI op p q l := ⟨_, rfl⟩
      have hell : el.length ≤ 20001 := by rw [hel]; simp [encI]; omega
      rw [← hel] at hv
      have HEL := hid hel
      obtain ⟨vo, vc, rfl, hrv⟩ := hv.rd
      have HRV := hid hrv
      have hbb := Bl.step (Bl.alloc (Bl.refl wr) (.cells #[.int .i64 op, .int .i64 p, .int .i64 q, .slice lo ln lc] 39)) hb
      have HO2 := hid (HO.out.below hbb (Nat.le_refl _))
      have HB2 := hid (HB.out.trans (hbb.mono hsz))
      have hsz2 := HB2.out.size
      clear hv hb hel hrv hbb HRY HO c0 c1 c2 c3
      go_wp2_with (first
        | (at_builtin; refine wpList_append_rd rfl (.tmp 16) (.tmp 18) 41 rfl 5 .u8 w.heap.size 1 Try.underlying41 infoU8 _ ys rfl HO2.out vo _ vc el rfl HRV.out (by omega) (by omega) hsz2 ?_; intro v3 w3 o3 b3 _; have HO3 := hid o3; have HB3 := hid b3; clear o3 b3)
        | fail)
      go_roundw
      case rel =>
        refine ⟨k + 1, by omega, by go_num, ?_, HB2.out.trans HB3.out⟩
        rw [Hs.out, encMs_snoc, ← List.append_assoc, ← HYS.out]
        have := HO3.out
        rw [HEL.out] at this
        exact this
      case measure => simp [intOf]; omega
    · have hkn' : k = n := by omega
      subst hkn'
      rw [List.take_of_length_le (by rw [Hx.out]; exact Nat.le_refl _)] at HYS
      go_wp2_with (first
        | (at_builtin; refine wpList_append_rd rfl (.tmp 21) (.tmp 22) 41 rfl 5 .u8 w.heap.size 1 Try.underlying41 infoU8 _ ys rfl (HO.out.alloc _) (some ⟨wr.heap.size, 0, none⟩) 1 1 [11] rfl (Rd.built _ _ _ _ (by decide)) (by omega) (by omega) (by simp; omega) ?_; intro v3 w3 o3 b3 _; have HO3 := hid o3; have HB3 := hid b3; clear o3 b3)
        | fail)
      go_ret
      refine ⟨_, rfl, ?_, (Below.alloc HB.out hsz _).trans HB3.out⟩
      rw [← HYS.out]
      exact HO3.out

set_option maxHeartbeats 1000000 in
theorem refPutBody_to (C : Addr → Prop) (ao : Option Addr) (n cap : Nat) (is : List Ins) (w : World) (hr : RdP w C ao n cap is) (hn : n ≤ 1000) (hmay : ∀ I ∈ is, mayII I = true) :
    Calls Try.prog 21 #[.slice ao n cap] w fun e w' => ∃ v, e = .returned v ∧ Own 5 .u8 w.heap.size w' v (encMs is ++ [11]) ∧ Below w.heap.size w w' := by
  have Hr := hid hr
  have Hx := hid hr.len
  have HM := hid hmay
  clear hr hmay
  go_enter Try.func21, Try.ntmps21
  go_wp2_with fail
  go_loopw [3, 4] (fun v i wr => ∃ k : Nat, k ≤ n ∧ i = .int .i64 k ∧ Own 5 .u8 w.heap.size wr v (encMs (is.take k)) ∧ Below w.heap.size w wr) (fun _ i _ => n - (intOf i).toNat)
  case atStart => exact ⟨0, Nat.zero_le _, rfl, by simpa [encMs] using Own.nil _ _ _ _, Below.refl _ _⟩
  case round =>
    obtain ⟨k, hkn, rfl, ho, hb⟩ := hrel
    have HO := hid ho
    have HB := hid hb
    have hsz := hb.size
    clear ho hb
    have hel := encMs_le is k n hkn hn HM.out
    obtain ⟨ys, hys⟩ : ∃ ys, ys = encMs (is.take k) := ⟨_, rfl⟩
    rw [← hys] at HO hel
    have HYS := hid hys
    clear hys
    obtain ⟨yo, yc, rfl, hry⟩ := HO.out.rd
    have HRY := hid hry
    clear hry
    by_cases hk : k < n
    · obtain ⟨b, off, lo, ln, lc, rfl, c0, c1, c2, c3, hrl, _⟩ := (Hr.out.below HB.out).cell k hk
      have hs := take_ins (is := is) (k := k) (by rw [Hx.out]; exact hk)
      have hok := Hr.out.ok k hk
      have hmay : mayII (is.getD k default) = true := by
        refine HM.out _ ?_
        simp only [List.getD, List.getElem?_eq_getElem (show k < is.length by rw [Hx.out]; exact hk), Option.getD_some]
        exact List.getElem_mem _
      obtain ⟨⟨op, p, q, l⟩, hI⟩ : ∃ I, I = is.getD k default := ⟨_, rfl⟩
      rw [← hI] at c0 c1 c2 hrl hs hok hmay
      simp only at c0 c1 c2 hrl
      have hp : -9223372036854775808 ≤ p ∧ p ≤ 9223372036854775807 := hok
      have Hs := hid hs
      have Hrl := hid hrl
      have HT : Hid (mayI op p q l = true) := hid hmay
      have hpl := tailI_len (sh op) p q l (Nat.le_trans (may_len HT.out) (by decide))
      clear hI hs hrl hok hmay
      go_wp2_with fail
      refine (refPut_to op p q lo ln lc l _ HT.out hp Hrl.out).mono ?_
      rintro e w2 ⟨v, rfl, hv, hb⟩
      obtain ⟨el, hel'⟩ : ∃ el, el = encI op p q l := ⟨_, rfl⟩
      have hell : el.length ≤ 20001 := by rw [hel']; simp [encI]; omega
      rw [← hel'] at hv
      have HEL := hid hel'
      obtain ⟨vo, vc, rfl, hrv⟩ := hv.rd
      have HRV := hid hrv
      have HO2 := hid (HO.out.below hb (Nat.le_refl _))
      have HB2 := hid (HB.out.trans (hb.mono hsz))
      have hsz2 := HB2.out.size
      clear hv hb hel' hrv HRY HO c0 c1 c2 c3
      go_wp2_with (first
        | (at_builtin; refine wpList_append_rd rfl (.tmp 11) (.tmp 16) 41 rfl 5 .u8 w.heap.size 1 Try.underlying41 infoU8 _ ys rfl HO2.out vo _ vc el rfl HRV.out (by omega) (by omega) hsz2 ?_; intro v3 w3 o3 b3 _; have HO3 := hid o3; have HB3 := hid b3; clear o3 b3)
        | fail)
      go_roundw
      case rel =>
        refine ⟨k + 1, by omega, by go_num, ?_, HB2.out.trans HB3.out⟩
        rw [Hs.out, encMs_snoc, ← HYS.out]
        have := HO3.out
        rw [HEL.out] at this
        exact this
      case measure => simp [intOf]; omega
    · have hkn' : k = n := by omega
      subst hkn'
      rw [List.take_of_length_le (by rw [Hx.out]; exact Nat.le_refl _)] at HYS
      go_wp2_with (first
        | (at_builtin; refine wpList_append_rd rfl (.tmp 18) (.tmp 19) 41 rfl 5 .u8 w.heap.size 1 Try.underlying41 infoU8 _ ys rfl (HO.out.alloc _) (some ⟨wr.heap.size, 0, none⟩) 1 1 [11] rfl (Rd.built _ _ _ _ (by decide)) (by omega) (by omega) (by simp; omega) ?_; intro v3 w3 o3 b3 _; have HO3 := hid o3; have HB3 := hid b3; clear o3 b3)
        | fail)
      go_ret
      refine ⟨_, rfl, ?_, (Below.alloc HB.out hsz _).trans HB3.out⟩
      rw [← HYS.out]
      exact HO3.out
end Go.Proofs.Ytfambbpggodlkaa
