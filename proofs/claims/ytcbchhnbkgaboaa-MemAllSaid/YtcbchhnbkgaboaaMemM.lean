/- mem: the specification: a memory's pages, bytes and marks. Plain. -/
import Derived.Test.YtcbchhnbkgaboaaBlk
namespace Go.Proofs.Ytcbchhnbkgaboaa
open Go.RowKit

/-- A memory: how many pages, how many there may be, its bytes, which pages have been touched. -/
structure MM where
  p : Nat
  q : Int
  c : List Int
  d : List Bool
structure MM.ok (M : MM) : Prop where
  cl : M.c.length = 4096
  dl : M.d.length = 16
  wf : ∀ x ∈ M.c, 0 ≤ x ∧ x < 256
  pl : M.p ≤ 16
  ql : M.q ≤ 16
  zero : ∀ i, 256 * M.p ≤ i → M.c.getD i 0 = 0
def memL (M : MM) : List Value := Value.int .i64 (M.p : Int) :: Value.int .i64 M.q :: (M.c.map (Value.int .u8) ++ M.d.map Value.bool)

/-- Noughts. -/
def zer (n : Nat) : List Int := List.replicate n 0
theorem zer_len (n : Nat) : (zer n).length = n := List.length_replicate
theorem zer_get (n i : Nat) : (zer n).getD i 0 = 0 := by
  unfold zer
  rw [List.getD_eq_getElem?_getD, List.getElem?_replicate]
  split <;> rfl
theorem zer_mem {n : Nat} {x : Int} (h : x ∈ zer n) : x = 0 := (List.mem_replicate.1 h).2
def fls (n : Nat) : List Bool := List.replicate n false
theorem fls_len (n : Nat) : (fls n).length = n := List.length_replicate
section
variable {M : MM}
theorem memL_len (h : M.ok) : (memL M).length = 4114 := by simp [memL, h.cl, h.dl]
theorem memL_c (h : M.ok) (i : Nat) (hi : i < 4096) : (memL M)[2 + i]? = some (.int .u8 (M.c.getD i 0)) := by
  have hc := h.cl
  rw [show 2 + i = i + 1 + 1 by omega]
  simp only [memL, List.getElem?_cons_succ]
  rw [List.getElem?_append_left (by simp; omega)]
  simp [List.getD, show i < M.c.length by omega]
theorem memL_d (h : M.ok) (i : Nat) (hi : i < 16) : (memL M)[4098 + i]? = some (.bool (M.d.getD i false)) := by
  have hc := h.cl
  have hd := h.dl
  rw [show 4098 + i = (4096 + i) + 1 + 1 by omega]
  simp only [memL, List.getElem?_cons_succ]
  rw [List.getElem?_append_right (by simp; omega)]
  simp [hc, List.getD, show i < M.d.length by omega]
theorem memL_p (v : Nat) : (memL M).set 0 (.int .i64 (v : Int)) = memL { M with p := v } := rfl
theorem memL_setc (h : M.ok) (i : Nat) (hi : i < 4096) (x : Int) : (memL M).set (2 + i) (.int .u8 x) = memL { M with c := M.c.set i x } := by
  have hc := h.cl
  rw [show 2 + i = i + 1 + 1 by omega]
  simp only [memL, List.set_cons_succ]
  rw [List.set_append_left _ _ (by simp; omega), List.map_set]
theorem memL_setd (h : M.ok) (i : Nat) (x : Bool) : (memL M).set (4098 + i) (.bool x) = memL { M with d := M.d.set i x } := by
  have hc := h.cl
  rw [show 4098 + i = (4096 + i) + 1 + 1 by omega]
  simp only [memL, List.set_cons_succ]
  rw [List.set_append_right _ _ (by simp; omega), List.map_set]
  simp [hc]
theorem memL_splice (h : M.ok) (o : Nat) (xs : List Int) (ho : o + xs.length ≤ 4096) : splice (memL M) (2 + o) (xs.map (Value.int .u8)) = memL { M with c := splice M.c o xs } := by
  have hc := h.cl
  simp only [splice, memL, List.length_map]
  rw [show 2 + o + xs.length = (o + xs.length) + 1 + 1 by omega, show 2 + o = o + 1 + 1 by omega]
  simp only [List.take_succ_cons, List.drop_succ_cons]
  rw [List.take_append_of_le_length (by simp; omega), List.drop_append_of_le_length (by simp; omega)]
  simp [List.map_take, List.map_drop]
theorem memL_clean (h : M.ok) : splice (memL M) 4098 (List.replicate 16 (Value.bool false)) = memL { M with d := fls 16 } := by
  have hc := h.cl
  have hd := h.dl
  simp only [splice, memL, List.length_replicate]
  rw [show (4098 : Nat) + 16 = (4096 + 16) + 1 + 1 by omega, show (4098 : Nat) = 4096 + 1 + 1 by omega]
  simp only [List.take_succ_cons, List.drop_succ_cons]
  rw [List.take_append, List.drop_eq_nil_of_le (by simp; omega)]
  rw [List.take_of_length_le (l := List.map _ _) (by simp; omega)]
  simp [hc, fls]
end

/-- What New makes. -/
def newM (p : Nat) (q : Int) : MM := ⟨p, if q = -1 then 16 else min q 16, zer 4096, fls 16⟩
/-- The marks of n pages from page k on. -/
def markM (d : List Bool) (k : Nat) : Nat → List Bool
  | 0 => d
  | n + 1 => (markM d k n).set (k + n) true
def growM (M : MM) (n : Nat) : MM := { M with p := M.p + n, d := markM M.d M.p n }
/-- The lowest n bytes of x, laid from place i on. -/
def bytM (c : List Int) (i : Nat) (x : Nat) : Nat → List Int
  | 0 => c
  | n + 1 => (bytM c i x n).set (i + n) ((x / 256 ^ n % 256 : Nat) : Int)
def storeM (M : MM) (at' n x : Nat) : MM := { M with c := bytM M.c at' x n, d := (M.d.set (at' / 256) true).set ((at' + n - 1) / 256) true }
/-- n bytes from place i on as a number. -/
def numM (c : List Int) (i : Nat) : Nat → Nat
  | 0 => 0
  | n + 1 => numM c i n + (c.getD (i + n) 0).toNat * 256 ^ n
def setPageM (M : MM) (i : Nat) (xs : List Int) : MM := { M with c := splice M.c (256 * i) xs, d := M.d.set i true }
def pageM (M : MM) (i : Nat) : List Int := (M.c.drop (256 * i)).take 256
def dirtyM (M : MM) : List Int := ((List.range M.p).filter (M.d.getD · false)).map Int.ofNat
def cleanM (M : MM) : MM := { M with d := fls 16 }
/-- May n bytes be read at a? -/
def hasM (M : MM) (a n : Int) : Bool := decide ((n = 1 ∨ n = 4 ∨ n = 8) ∧ 0 ≤ a ∧ a ≤ (M.p : Int) * 256 - n)

theorem markM_len (d : List Bool) (k n : Nat) : (markM d k n).length = d.length := by
  induction n with
  | zero => rfl
  | succ n ih => simp [markM, ih]
theorem bytM_len (c : List Int) (i x n : Nat) : (bytM c i x n).length = c.length := by
  induction n with
  | zero => rfl
  | succ n ih => simp [bytM, ih]
theorem bytM_get (c : List Int) (i x n j : Nat) (hc : i + n ≤ c.length) : (bytM c i x n).getD j 0 = if i ≤ j ∧ j < i + n then ((x / 256 ^ (j - i) % 256 : Nat) : Int) else c.getD j 0 := by
  induction n with
  | zero => simp [bytM]; omega
  | succ n ih =>
    have := ih (by omega)
    simp only [bytM]
    by_cases e : j = i + n
    · subst e
      have hl : i + n < (bytM c i x n).length := by rw [bytM_len]; omega
      simp [List.getD, hl, show i + n - i = n by omega]
    · rw [show ((bytM c i x n).set (i + n) ((x / 256 ^ n % 256 : Nat) : Int)).getD j 0 = (bytM c i x n).getD j 0 by simp [List.getD, show ¬ i + n = j by omega]]
      rw [this]
      by_cases h : i ≤ j ∧ j < i + n
      · rw [if_pos h, if_pos (by omega)]
      · rw [if_neg h, if_neg (by omega)]
theorem bytM_wf (c : List Int) (i x n : Nat) (h : ∀ y ∈ c, 0 ≤ y ∧ y < 256) : ∀ y ∈ bytM c i x n, 0 ≤ y ∧ y < 256 := by
  induction n with
  | zero => exact h
  | succ n ih =>
    intro y hy
    rcases List.mem_or_eq_of_mem_set hy with hy | rfl
    · exact ih y hy
    · constructor <;> omega

theorem newM_ok (p : Nat) (q : Int) (hp : p ≤ 16) : (newM p q).ok := by
  refine ⟨zer_len _, fls_len _, ?_, hp, ?_, fun i _ => zer_get _ _⟩
  · intro x hx
    have := zer_mem hx
    omega
  · simp only [newM]
    split <;> omega
theorem growM_ok {M : MM} (h : M.ok) (n : Nat) (hn : M.p + n ≤ 16) : (growM M n).ok :=
  ⟨h.cl, by simp [growM, markM_len, h.dl], h.wf, hn, h.ql, fun i hi => h.zero i (by simp only [growM] at hi; omega)⟩
theorem storeM_ok {M : MM} (h : M.ok) (a n x : Nat) (ha : a + n ≤ 256 * M.p) : (storeM M a n x).ok := by
  have hp := h.pl
  refine ⟨by simp [storeM, bytM_len, h.cl], by simp [storeM, h.dl], bytM_wf _ _ _ _ h.wf, h.pl, h.ql, fun i hi => ?_⟩
  simp only [storeM] at hi ⊢
  rw [bytM_get _ _ _ _ _ (by rw [h.cl]; omega), if_neg (by omega)]
  exact h.zero i hi
theorem splice_getD (c : List Int) (o : Nat) (xs : List Int) (j : Nat) (h : o + xs.length ≤ c.length) : (splice c o xs).getD j 0 = if o ≤ j ∧ j < o + xs.length then xs.getD (j - o) 0 else c.getD j 0 := by
  simp only [splice, List.getD, List.getElem?_append, List.length_take, List.getElem?_take, List.getElem?_drop]
  rw [Nat.min_eq_left (by omega)]
  by_cases h1 : j < o
  · simp [h1, show ¬ o ≤ j by omega]
  · by_cases h2 : j - o < xs.length
    · simp [h1, h2, show o ≤ j ∧ j < o + xs.length by omega]
    · simp only [h1, h2, if_false, show ¬ (o ≤ j ∧ j < o + xs.length) by omega]
      rw [show o + xs.length + (j - o - xs.length) = j by omega]
theorem splice_mem {c xs : List Int} {o : Nat} {y : Int} (h : y ∈ splice c o xs) : y ∈ c ∨ y ∈ xs := by
  simp only [splice, List.mem_append] at h
  rcases h with h | h | h
  · exact .inl (List.mem_of_mem_take h)
  · exact .inr h
  · exact .inl (List.mem_of_mem_drop h)
theorem setPageM_ok {M : MM} (h : M.ok) (i : Nat) (xs : List Int) (hi : i < M.p) (hx : xs.length = 256) (hw : ∀ y ∈ xs, 0 ≤ y ∧ y < 256) : (setPageM M i xs).ok := by
  have hp := h.pl
  have hc := h.cl
  refine ⟨?_, by simp [setPageM, h.dl], ?_, h.pl, h.ql, ?_⟩
  · simp only [setPageM]
    rw [length_splice _ _ _ (by omega)]
    exact h.cl
  · intro y hy
    rcases splice_mem hy with hy | hy
    · exact h.wf y hy
    · exact hw y hy
  · intro j hj
    simp only [setPageM] at hj ⊢
    rw [splice_getD _ _ _ _ (by omega), if_neg (by omega)]
    exact h.zero j hj
theorem cleanM_ok {M : MM} (h : M.ok) : (cleanM M).ok := ⟨h.cl, fls_len _, h.wf, h.pl, h.ql, h.zero⟩
theorem pageM_len {M : MM} (h : M.ok) (i : Nat) (hi : i < 16) : (pageM M i).length = 256 := by
  have := h.cl
  simp [pageM]; omega
theorem pageM_get {M : MM} (i j : Nat) (hj : j < 256) : (pageM M i).getD j 0 = M.c.getD (256 * i + j) 0 := by
  simp [pageM, List.getD, hj]
theorem pageM_wf {M : MM} (h : M.ok) (i : Nat) : ∀ y ∈ pageM M i, 0 ≤ y ∧ y < 256 := fun y hy => h.wf y (List.mem_of_mem_drop (List.mem_of_mem_take hy))
end Go.Proofs.Ytcbchhnbkgaboaa
