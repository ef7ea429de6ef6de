/- Several instructions as bytes; bytes as text. -/
import Derived.Test.YtfambbpggodlkaaInsBody
import Derived.Test.YtfambbpggodlkaaInsBack
namespace Go.Proofs.Ytfambbpggodlkaa
open Go.RowKit

theorem str_app (xs ys : List Int) : strOfNums (xs ++ ys) = strOfNums xs ++ strOfNums ys := by
  refine ByteArray.ext ?_
  rw [ByteArray.data_append]
  refine Array.toList_inj.1 ?_
  rw [Array.toList_append, strOfNums_data, strOfNums_data, strOfNums_data, List.map_append]
theorem str_len (xs : List Int) : (strOfNums xs).size = xs.length := by
  have h := congrArg List.length (strOfNums_data xs)
  rw [List.length_map] at h
  rw [← h, Array.length_toList]
  rfl
/-- 'append(nil, x...)'. -/
theorem run_append_nil_rd {P : Program} {w : World} (t ty E : TypeId) (k : IntKind) (bytes : Nat) (ht : P.underlying t = some (.slice E)) (hi : (P.info? E).map (fun i => (i.zero, i.size, i.bytes)) = some (some (.int k 0), 1, bytes))
    (ao : Option Addr) (n cap : Nat) (ys : List Int) (hr : Rd k w ao n cap ys) (h63 : n ≤ 4611686018427387904) (hbytes : n * bytes ≤ 140737488355328) :
    ∃ v' w', (Builtin.append_ #[t, t] ty #[.slice none 0 0, .slice ao n cap]).run P w = .ok v' w' ∧ Own E k w.heap.size w' v' ys ∧ Below w.heap.size w w' := by
  obtain ⟨i, hi0, hz, hsz, hby⟩ := info_parts hi
  cases ao with
  | none =>
    have hc := hr.nil rfl
    have hn : n = 0 := by have := hr.le; omega
    have hy : ys = [] := List.eq_nil_of_length_eq_zero (by rw [hr.len]; exact hn)
    subst hc hn hy
    exact ⟨_, _, run_append_owned_none (P := P) (w := w) w.heap.size t ty E i 1 ht hi0 (.slice none 0 0) 0 [] (World.ownsRow_nil w _ E 1), Own.nil _ _ _ _, Below.refl _ _⟩
  | some ad =>
    obtain ⟨v', w', hrun, h1, h2, _⟩ := run_append_own (P := P) w w.heap.size t ty E i (.int k 0) 1 bytes ht hi0 hz hsz hby rfl (by decide) (.slice none 0 0) 0 [] (World.ownsRow_nil w _ E 1) ad n cap (ys.map (Value.int k)) (by simp [hr.len]) (hr.news rfl) (ints_oneCell _ _) (by unfold maxLen; omega) (by simpa using hbytes) (Nat.le_refl _)
    refine ⟨v', w', hrun, ⟨?_, hr.wf⟩, (Below.refl _ _).grown h2 (Nat.le_refl _) (fun _ h => by cases h)⟩
    simpa [hr.len] using h1

theorem encL_bs : ∀ l : List Int, (∀ x ∈ l, 0 ≤ x ∧ x ≤ 1000) → ∀ y ∈ encL l, 0 ≤ y ∧ y ≤ 255
  | [], _, y, hy => by simp [encL] at hy
  | x :: r, h, y, hy => by
    rcases List.mem_append.1 hy with hy | hy
    · have hx := h x (by simp)
      exact encU_bs 9 x hx.1 (fits9 x hx.1 (by omega)) y hy
    · exact encL_bs r (fun z hz => h z (by simp [hz])) y hy
theorem encI_bs {op p q : Int} {l : List Int} (h : mayI op p q l = true) (hp : -9223372036854775808 ≤ p ∧ p ≤ 9223372036854775807) : ∀ x ∈ encI op p q l, 0 ≤ x ∧ x ≤ 255 := by
  obtain ⟨h1, h2, h3⟩ := may_parts h
  intro x hx
  rcases List.mem_cons.1 hx with rfl | hx
  · exact may_op h
  have hU : ∀ u : Int, 0 ≤ u → u ≤ 4294967295 → ∀ y ∈ encU 9 u, 0 ≤ y ∧ y ≤ 255 := fun u h0 h1 => encU_bs 9 u h0 (fits9 u h0 (by omega))
  have hb := sh_bounds op
  generalize hs : sh op = s at *
  have e : s = 0 ∨ s = 1 ∨ s = 2 ∨ s = 3 ∨ s = 4 ∨ s = 5 ∨ s = 6 ∨ s = 7 ∨ s = 8 ∨ s = 9 := by omega
  rcases e with rfl | rfl | rfl | rfl | rfl | rfl | rfl | rfl | rfl | rfl
  · simp [mayAS] at h1
  · simp [tailI] at hx
  · simp [tailI] at hx
    subst hx
    unfold resB
    (repeat' split) <;> simp
  · exact hU p (by simp [mayAS] at h1; omega) (by simp [mayAS] at h1; omega) x hx
  · have hl : l.length ≤ 50 ∧ ∀ x ∈ l, 0 ≤ x ∧ x ≤ 1000 := by simpa [mayLS, idx] using h3
    have hx' : x ∈ encU 9 (l.length : Int) ++ (encL l ++ encU 9 p) := hx
    rcases List.mem_append.1 hx' with hx | hx
    · exact hU _ (by omega) (by omega) x hx
    rcases List.mem_append.1 hx with hx | hx
    · exact encL_bs l hl.2 x hx
    · exact hU p (by simp [mayAS] at h1; omega) (by simp [mayAS] at h1; omega) x hx
  · have hx' : x ∈ encU 9 p ++ [0] := hx
    rcases List.mem_append.1 hx' with hx | hx
    · exact hU p (by simp [mayAS] at h1; omega) (by simp [mayAS] at h1; omega) x hx
    · simp at hx; subst hx; simp
  · have hx' : x ∈ encU 9 p ++ encU 9 q := hx
    rcases List.mem_append.1 hx' with hx | hx
    · exact hU p (by simp [mayAS] at h1; omega) (by simp [mayAS] at h1; omega) x hx
    · exact hU q (by simp [mayBS] at h2; omega) (by simp [mayBS] at h2; omega) x hx
  · simp [tailI] at hx; subst hx; simp
  · exact encS_bs 9 p (fitsS9 p hp.1 hp.2) x hx
  · exact encS_bs 9 p (fitsS9 p hp.1 hp.2) x hx
/-- Two have one text just if they are the same. -/
def mayII (I : Ins) : Bool := mayI I.op I.a I.b I.l
def encII (I : Ins) : List Int := encI I.op I.a I.b I.l
def encMs (js : List Ins) : List Int := js.flatMap encII
def keep (js : List Ins) : List Ins := js.filter mayII
theorem keep_snoc (js : List Ins) (I : Ins) : keep (js ++ [I]) = if mayII I then keep js ++ [I] else keep js := by
  unfold keep
  rw [List.filter_append]
  by_cases h : mayII I = true <;> simp [h]
theorem keep_may {js : List Ins} {I : Ins} (h : I ∈ keep js) : mayII I = true ∧ I ∈ js := by
  unfold keep at h
  simp at h
  exact ⟨h.2, h.1⟩
theorem keep_len (js : List Ins) : (keep js).length ≤ js.length := List.length_filter_le _ _
theorem encMs_snoc (js : List Ins) (I : Ins) : encMs (js ++ [I]) = encMs js ++ encII I := by simp [encMs]
theorem encMs_len : ∀ js : List Ins, (∀ I ∈ js, mayII I = true) → (encMs js).length ≤ js.length * 20001
  | [], _ => by simp [encMs]
  | I :: r, h => by
    have h1 := encMs_len r (fun J hJ => h J (by simp [hJ]))
    have h2 := h I (by simp)
    have h3 := tailI_len (sh I.op) I.a I.b I.l (Nat.le_trans (may_len h2) (by decide))
    simp [encMs, encII, encI] at h1 ⊢
    omega
theorem cutI_ok {I : Ins} (h : okI I) : okI (cutI I) := h
theorem RdP.okAll {w : World} {C : Addr → Prop} {ao : Option Addr} {n cap : Nat} {is : List Ins} (h : RdP w C ao n cap is) : ∀ I ∈ is, okI I := by
  intro I hI
  obtain ⟨i, hi, rfl⟩ := List.getElem_of_mem hI
  have := h.ok i (by rw [← h.len]; exact hi)
  simpa [List.getD, hi] using this
end Go.Proofs.Ytfambbpggodlkaa
