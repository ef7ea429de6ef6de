/- package state: Encode: putNumber, putList at each type, the parts, encoded. Written by gen_sf.py. -/
import Derived.Test.YtnbegmlbkjjggaaSfE
import Derived.Test.YtnbegmlbkjjggaaCatB
import Derived.Test.YtnbegmlbkjjggaaLebTot
namespace Go.Proofs.Ytnbegmlbkjjggaa
open Go.RowKit
set_option linter.unusedVariables false

def numE (n : Int) : List Int := encU 9 n
def vecE {α : Type} (f : α → List Int) (xs : List α) : List Int := encU 9 (xs.length : Int) ++ xs.flatMap f
theorem putNumber_to (n : Int) (w : World) (h0 : 0 ≤ n) (h1 : n ≤ 9223372036854775807) : Calls Try.prog 39 #[.int .i64 n] w fun e w' => ∃ v, e = .returned v ∧ Own 5 .u8 w.heap.size w' v (numE n) ∧ Below w.heap.size w w' := by
  go_enter Try.func39, Try.ntmps39
  go_wp2_with fail
  refine (putU_any none 0 0 [] n _ (Rd.empty _ _) (by omega) h0 (by omega)).mono ?_
  rintro e w' ⟨v, rfl, hv, hb⟩
  go_wp2_with fail
  go_ret
  exact ⟨_, rfl, by simpa [numE] using hv, hb⟩
theorem flatMap_le {α : Type} (f : α → List Int) : ∀ (l : List α) (m : Nat), (∀ x ∈ l, (f x).length ≤ m) → (l.flatMap f).length ≤ l.length * m
  | [], _, _ => by simp
  | x :: r, m, h => by
    have h1 := h x (by simp)
    have h2 := flatMap_le f r m (fun y hy => h y (by simp [hy]))
    rw [List.flatMap_cons, List.length_append, List.length_cons, Nat.add_mul]
    omega
theorem take_flat {α : Type} (f : α → List Int) (xs : List α) (k : Nat) (x : α) (hx : xs[k]? = some x) : (xs.take (k + 1)).flatMap f = (xs.take k).flatMap f ++ f x := by
  rw [List.take_add_one, List.flatMap_append, hx]
  simp

set_option maxRecDepth 100000 in
set_option maxHeartbeats 1000000 in
theorem vecVa_to (g : Nat) (f : (Int × Int) → List Int) (ao : Option Addr) (n cap : Nat) (xs : List ((Int × Int))) (w : World) (h : Rx w fun w => RdG 2 (PaR) w ao n cap xs) (he : ∀ args w, (callFunc g args).run Try.prog w = .ok (.enter g args) w) (hn : n ≤ 1000)
    (hf : ∀ x ∈ xs, (f x).length ≤ 100000000)
    (HF : ∀ w cs x, x ∈ xs → (Rx w fun w => PaR w cs x) → Calls Try.prog g #[.agg cs.toArray] w fun e w' => ∃ v, e = .returned v ∧ Own 5 .u8 w.heap.size w' v (f x) ∧ Below w.heap.size w w') :
    Calls Try.prog 40 #[.slice ao n cap, .func (.func g) #[] #[]] w fun e w' => ∃ v, e = .returned v ∧ Own 5 .u8 w.heap.size w' v (vecE f xs) ∧ Below w.heap.size w w' := by
  have hl := h.now.len
  obtain ⟨h63, h63'⟩ := h.now.cap63
  have H := hid h
  have Hl := hid hl
  have HFF := hid HF
  have HLE := hid hf
  clear h HF hf
  go_enter Try.func40, Try.ntmps40
  go_wp2_with fail
  refine (putNumber_to (n : Int) w (by omega) (by omega)).mono ?_
  rintro e w0 ⟨v0, rfl, hv0, hb0⟩
  have HV0 := hid hv0
  have HB0 := hid hb0
  clear hv0 hb0
  go_wp2_with fail
  go_loopw [5, 13] (fun v i wr => ∃ k : Nat, k ≤ n ∧ i = .int .i64 k ∧ Own 5 .u8 w.heap.size wr v (encU 9 (n : Int) ++ (xs.take k).flatMap f) ∧ Below w.heap.size w wr) (fun _ i _ => n - (intOf i).toNat)
  case atStart => exact ⟨0, Nat.zero_le _, rfl, by simpa [numE] using HV0.out, HB0.out⟩
  case round =>
    obtain ⟨k, hkn, rfl, hv, hb⟩ := hrel
    have hsz := hb.size
    have HB := hid hb
    have HV := hid hv
    clear hb hv HV0 HB0
    by_cases hk : k < n
    · obtain ⟨x, hx⟩ : ∃ x, xs[k]? = some x := ⟨xs[k]'(by omega), List.getElem?_eq_getElem (by omega)⟩
      have hlen : (encU 9 (n : Int) ++ (xs.take k).flatMap f).length ≤ 100000000100 := by
        have h1 := encU_len 9 (n : Int)
        have h2 := flatMap_le f (xs.take k) 100000000 (fun y hy => HLE.out y (List.mem_of_mem_take hy))
        have h3 : (xs.take k).length ≤ k := List.length_take_le _ _
        have h4 : (xs.take k).length * 100000000 ≤ 1000 * 100000000 := Nat.mul_le_mul_right _ (by omega)
        simp only [List.length_append]
        omega
      have hsn := take_flat f xs k x hx
      have hfx := HLE.out _ (List.mem_of_getElem? hx)
      obtain ⟨b, off, cs, rfl, hcl, hR, hc⟩ := RdG.elem (H.out.below HB.out) hx
      obtain ⟨y1, y2⟩ := x
      obtain ⟨rfl, hy1, hy2⟩ := hR.now
      have c0 := hc 0 _ rfl
      rw [Nat.add_zero] at c0
      have c1 := hc 1 _ rfl
      have HR := hid hR
      have HX := hid (List.mem_of_getElem? hx)
      clear hc hR hx hcl hy1 hy2 hl
      obtain ⟨ys, hys⟩ : ∃ ys, ys = encU 9 (n : Int) ++ (xs.take k).flatMap f := ⟨_, rfl⟩
      rw [← hys] at HV hlen
      obtain ⟨zs, hzs⟩ : ∃ zs, zs = f ⟨y1, y2⟩ := ⟨_, rfl⟩
      have hcall := HFF.out (wr.alloc (.cells #[.int .i64 y1, .int .i64 y2] 39)) _ _ HX.out (HR.out.alloc _)
      rw [← hzs] at hcall hfx hsn
      have HCALL := hid hcall
      have HYS := hid hys
      have HSN := hid hsn
      clear hcall hys hzs hsn
      go_wp2_with fail
      refine HCALL.out.mono ?_
      rintro e w1 ⟨v1, rfl, hv1, hb1⟩
      obtain ⟨ao1, cap1, rfl, hr1⟩ := hv1.rd
      have hbb := (Bl.step (Bl.alloc (Bl.refl wr) _) hb1)
      have HB1 := hid (HB.out.trans (hbb.mono hsz))
      have HV1 := hid (HV.out.below hbb (Nat.le_refl _))
      have HR1 := hid hr1
      have hsz1 := HB1.out.size
      obtain ⟨m1, hm1⟩ : ∃ m1, m1 = zs.length := ⟨_, rfl⟩
      rw [← hm1] at HR1 hfx ⊢
      clear hv1 hb1 hr1 hbb hm1 HCALL HV HB c0 c1
      go_wp2_with (at_builtin; refine wpList_append_rd rfl (.tmp 17) (.tmp 20) 28 rfl 5 .u8 w.heap.size 1 Try.underlying28 infoU8 _ ys rfl HV1.out ao1 _ cap1 zs rfl HR1.out (by omega) (by omega) hsz1 ?_; intro v2 w2 h3 h4 _)
      go_roundw
      case rel =>
        refine ⟨k + 1, by omega, by go_num, ?_, HB1.out.trans h4⟩
        rw [HSN.out, ← List.append_assoc, ← HYS.out]
        exact h3
      case measure => simp [intOf]; omega
    · have e0 : k = n := by omega
      subst e0
      have ht : xs.take k = xs := List.take_of_length_le (by rw [Hl.out]; exact Nat.le_refl _)
      have ha := HV.out
      rw [ht] at ha
      have HA2 := hid ha
      clear ht ha hl
      go_wp2_with fail
      refine bodyPost_ret (v := u5) (by simp [results, Try.results40, go_sem]) rfl ⟨_, rfl, ?_, HB.out⟩
      unfold vecE
      rw [Hl.out]
      exact HA2.out

set_option maxRecDepth 100000 in
set_option maxHeartbeats 1000000 in
theorem vecLa_to (g : Nat) (f : (Int × Int) → List Int) (ao : Option Addr) (n cap : Nat) (xs : List ((Int × Int))) (w : World) (h : Rx w fun w => RdG 2 (PaR) w ao n cap xs) (he : ∀ args w, (callFunc g args).run Try.prog w = .ok (.enter g args) w) (hn : n ≤ 1000)
    (hf : ∀ x ∈ xs, (f x).length ≤ 100000000)
    (HF : ∀ w cs x, x ∈ xs → (Rx w fun w => PaR w cs x) → Calls Try.prog g #[.agg cs.toArray] w fun e w' => ∃ v, e = .returned v ∧ Own 5 .u8 w.heap.size w' v (f x) ∧ Below w.heap.size w w') :
    Calls Try.prog 58 #[.slice ao n cap, .func (.func g) #[] #[]] w fun e w' => ∃ v, e = .returned v ∧ Own 5 .u8 w.heap.size w' v (vecE f xs) ∧ Below w.heap.size w w' := by
  have hl := h.now.len
  obtain ⟨h63, h63'⟩ := h.now.cap63
  have H := hid h
  have Hl := hid hl
  have HFF := hid HF
  have HLE := hid hf
  clear h HF hf
  go_enter Try.func58, Try.ntmps58
  go_wp2_with fail
  refine (putNumber_to (n : Int) w (by omega) (by omega)).mono ?_
  rintro e w0 ⟨v0, rfl, hv0, hb0⟩
  have HV0 := hid hv0
  have HB0 := hid hb0
  clear hv0 hb0
  go_wp2_with fail
  go_loopw [5, 13] (fun v i wr => ∃ k : Nat, k ≤ n ∧ i = .int .i64 k ∧ Own 5 .u8 w.heap.size wr v (encU 9 (n : Int) ++ (xs.take k).flatMap f) ∧ Below w.heap.size w wr) (fun _ i _ => n - (intOf i).toNat)
  case atStart => exact ⟨0, Nat.zero_le _, rfl, by simpa [numE] using HV0.out, HB0.out⟩
  case round =>
    obtain ⟨k, hkn, rfl, hv, hb⟩ := hrel
    have hsz := hb.size
    have HB := hid hb
    have HV := hid hv
    clear hb hv HV0 HB0
    by_cases hk : k < n
    · obtain ⟨x, hx⟩ : ∃ x, xs[k]? = some x := ⟨xs[k]'(by omega), List.getElem?_eq_getElem (by omega)⟩
      have hlen : (encU 9 (n : Int) ++ (xs.take k).flatMap f).length ≤ 100000000100 := by
        have h1 := encU_len 9 (n : Int)
        have h2 := flatMap_le f (xs.take k) 100000000 (fun y hy => HLE.out y (List.mem_of_mem_take hy))
        have h3 : (xs.take k).length ≤ k := List.length_take_le _ _
        have h4 : (xs.take k).length * 100000000 ≤ 1000 * 100000000 := Nat.mul_le_mul_right _ (by omega)
        simp only [List.length_append]
        omega
      have hsn := take_flat f xs k x hx
      have hfx := HLE.out _ (List.mem_of_getElem? hx)
      obtain ⟨b, off, cs, rfl, hcl, hR, hc⟩ := RdG.elem (H.out.below HB.out) hx
      obtain ⟨y1, y2⟩ := x
      obtain ⟨rfl, hy1, hy2⟩ := hR.now
      have c0 := hc 0 _ rfl
      rw [Nat.add_zero] at c0
      have c1 := hc 1 _ rfl
      have HR := hid hR
      have HX := hid (List.mem_of_getElem? hx)
      clear hc hR hx hcl hy1 hy2 hl
      obtain ⟨ys, hys⟩ : ∃ ys, ys = encU 9 (n : Int) ++ (xs.take k).flatMap f := ⟨_, rfl⟩
      rw [← hys] at HV hlen
      obtain ⟨zs, hzs⟩ : ∃ zs, zs = f ⟨y1, y2⟩ := ⟨_, rfl⟩
      have hcall := HFF.out (wr.alloc (.cells #[.int .i64 y1, .int .i64 y2] 44)) _ _ HX.out (HR.out.alloc _)
      rw [← hzs] at hcall hfx hsn
      have HCALL := hid hcall
      have HYS := hid hys
      have HSN := hid hsn
      clear hcall hys hzs hsn
      go_wp2_with fail
      refine HCALL.out.mono ?_
      rintro e w1 ⟨v1, rfl, hv1, hb1⟩
      obtain ⟨ao1, cap1, rfl, hr1⟩ := hv1.rd
      have hbb := (Bl.step (Bl.alloc (Bl.refl wr) _) hb1)
      have HB1 := hid (HB.out.trans (hbb.mono hsz))
      have HV1 := hid (HV.out.below hbb (Nat.le_refl _))
      have HR1 := hid hr1
      have hsz1 := HB1.out.size
      obtain ⟨m1, hm1⟩ : ∃ m1, m1 = zs.length := ⟨_, rfl⟩
      rw [← hm1] at HR1 hfx ⊢
      clear hv1 hb1 hr1 hbb hm1 HCALL HV HB c0 c1
      go_wp2_with (at_builtin; refine wpList_append_rd rfl (.tmp 17) (.tmp 20) 28 rfl 5 .u8 w.heap.size 1 Try.underlying28 infoU8 _ ys rfl HV1.out ao1 _ cap1 zs rfl HR1.out (by omega) (by omega) hsz1 ?_; intro v2 w2 h3 h4 _)
      go_roundw
      case rel =>
        refine ⟨k + 1, by omega, by go_num, ?_, HB1.out.trans h4⟩
        rw [HSN.out, ← List.append_assoc, ← HYS.out]
        exact h3
      case measure => simp [intOf]; omega
    · have e0 : k = n := by omega
      subst e0
      have ht : xs.take k = xs := List.take_of_length_le (by rw [Hl.out]; exact Nat.le_refl _)
      have ha := HV.out
      rw [ht] at ha
      have HA2 := hid ha
      clear ht ha hl
      go_wp2_with fail
      refine bodyPost_ret (v := u5) (by simp [results, Try.results58, go_sem]) rfl ⟨_, rfl, ?_, HB.out⟩
      unfold vecE
      rw [Hl.out]
      exact HA2.out

set_option maxRecDepth 100000 in
set_option maxHeartbeats 1000000 in
theorem vecFr_to (g : Nat) (f : Fm → List Int) (ao : Option Addr) (n cap : Nat) (xs : List (Fm)) (w : World) (h : Rx w fun w => RdG 5 (FrR) w ao n cap xs) (he : ∀ args w, (callFunc g args).run Try.prog w = .ok (.enter g args) w) (hn : n ≤ 1000)
    (hf : ∀ x ∈ xs, (f x).length ≤ 100000000)
    (HF : ∀ w cs x, x ∈ xs → (Rx w fun w => FrR w cs x) → Calls Try.prog g #[.agg cs.toArray] w fun e w' => ∃ v, e = .returned v ∧ Own 5 .u8 w.heap.size w' v (f x) ∧ Below w.heap.size w w') :
    Calls Try.prog 42 #[.slice ao n cap, .func (.func g) #[] #[]] w fun e w' => ∃ v, e = .returned v ∧ Own 5 .u8 w.heap.size w' v (vecE f xs) ∧ Below w.heap.size w w' := by
  have hl := h.now.len
  obtain ⟨h63, h63'⟩ := h.now.cap63
  have H := hid h
  have Hl := hid hl
  have HFF := hid HF
  have HLE := hid hf
  clear h HF hf
  go_enter Try.func42, Try.ntmps42
  go_wp2_with fail
  refine (putNumber_to (n : Int) w (by omega) (by omega)).mono ?_
  rintro e w0 ⟨v0, rfl, hv0, hb0⟩
  have HV0 := hid hv0
  have HB0 := hid hb0
  clear hv0 hb0
  go_wp2_with fail
  go_loopw [5, 13] (fun v i wr => ∃ k : Nat, k ≤ n ∧ i = .int .i64 k ∧ Own 5 .u8 w.heap.size wr v (encU 9 (n : Int) ++ (xs.take k).flatMap f) ∧ Below w.heap.size w wr) (fun _ i _ => n - (intOf i).toNat)
  case atStart => exact ⟨0, Nat.zero_le _, rfl, by simpa [numE] using HV0.out, HB0.out⟩
  case round =>
    obtain ⟨k, hkn, rfl, hv, hb⟩ := hrel
    have hsz := hb.size
    have HB := hid hb
    have HV := hid hv
    clear hb hv HV0 HB0
    by_cases hk : k < n
    · obtain ⟨x, hx⟩ : ∃ x, xs[k]? = some x := ⟨xs[k]'(by omega), List.getElem?_eq_getElem (by omega)⟩
      have hlen : (encU 9 (n : Int) ++ (xs.take k).flatMap f).length ≤ 100000000100 := by
        have h1 := encU_len 9 (n : Int)
        have h2 := flatMap_le f (xs.take k) 100000000 (fun y hy => HLE.out y (List.mem_of_mem_take hy))
        have h3 : (xs.take k).length ≤ k := List.length_take_le _ _
        have h4 : (xs.take k).length * 100000000 ≤ 1000 * 100000000 := Nat.mul_le_mul_right _ (by omega)
        simp only [List.length_append]
        omega
      have hsn := take_flat f xs k x hx
      have hfx := HLE.out _ (List.mem_of_getElem? hx)
      obtain ⟨b, off, cs, rfl, hcl, hR, hc⟩ := RdG.elem (H.out.below HB.out) hx
      obtain ⟨y1, y2, y3, y4, y5⟩ := x
      obtain ⟨a1, n1, k1, a2, n2, k2, rfl, hr1, hr2, hy1, hy2, hy4⟩ := hR.now
      have c0 := hc 0 _ rfl
      rw [Nat.add_zero] at c0
      have c1 := hc 1 _ rfl
      have c2 := hc 2 _ rfl
      have c3 := hc 3 _ rfl
      have c4 := hc 4 _ rfl
      have HR := hid hR
      have HX := hid (List.mem_of_getElem? hx)
      clear hc hR hx hcl hr1 hr2 hy1 hy2 hy4 hl
      obtain ⟨ys, hys⟩ : ∃ ys, ys = encU 9 (n : Int) ++ (xs.take k).flatMap f := ⟨_, rfl⟩
      rw [← hys] at HV hlen
      obtain ⟨zs, hzs⟩ : ∃ zs, zs = f ⟨y1, y2, y3, y4, y5⟩ := ⟨_, rfl⟩
      have hcall := HFF.out (wr.alloc (.cells #[.int .i64 y1, .int .i64 y2, .slice a1 n1 k1, .int .i64 y4, .slice a2 n2 k2] 42)) _ _ HX.out (HR.out.alloc _)
      rw [← hzs] at hcall hfx hsn
      have HCALL := hid hcall
      have HYS := hid hys
      have HSN := hid hsn
      clear hcall hys hzs hsn
      go_wp2_with fail
      refine HCALL.out.mono ?_
      rintro e w1 ⟨v1, rfl, hv1, hb1⟩
      obtain ⟨ao1, cap1, rfl, hr1⟩ := hv1.rd
      have hbb := (Bl.step (Bl.alloc (Bl.refl wr) _) hb1)
      have HB1 := hid (HB.out.trans (hbb.mono hsz))
      have HV1 := hid (HV.out.below hbb (Nat.le_refl _))
      have HR1 := hid hr1
      have hsz1 := HB1.out.size
      obtain ⟨m1, hm1⟩ : ∃ m1, m1 = zs.length := ⟨_, rfl⟩
      rw [← hm1] at HR1 hfx ⊢
      clear hv1 hb1 hr1 hbb hm1 HCALL HV HB c0 c1 c2 c3 c4
      go_wp2_with (at_builtin; refine wpList_append_rd rfl (.tmp 17) (.tmp 20) 28 rfl 5 .u8 w.heap.size 1 Try.underlying28 infoU8 _ ys rfl HV1.out ao1 _ cap1 zs rfl HR1.out (by omega) (by omega) hsz1 ?_; intro v2 w2 h3 h4 _)
      go_roundw
      case rel =>
        refine ⟨k + 1, by omega, by go_num, ?_, HB1.out.trans h4⟩
        rw [HSN.out, ← List.append_assoc, ← HYS.out]
        exact h3
      case measure => simp [intOf]; omega
    · have e0 : k = n := by omega
      subst e0
      have ht : xs.take k = xs := List.take_of_length_le (by rw [Hl.out]; exact Nat.le_refl _)
      have ha := HV.out
      rw [ht] at ha
      have HA2 := hid ha
      clear ht ha hl
      go_wp2_with fail
      refine bodyPost_ret (v := u5) (by simp [results, Try.results42, go_sem]) rfl ⟨_, rfl, ?_, HB.out⟩
      unfold vecE
      rw [Hl.out]
      exact HA2.out
end Go.Proofs.Ytnbegmlbkjjggaa
