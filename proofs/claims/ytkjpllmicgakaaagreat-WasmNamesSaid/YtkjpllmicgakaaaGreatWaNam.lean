/- WasmNames: names of modules. Written by gen_nam.py. -/
import Derived.Test.YtkjpllmicgakaaaGreatWF
import Derived.Test.YtkjpllmicgakaaaGreatRefEqM
import Derived.Deep.AppendLies
import Derived.Laws.MakeOwn
import Derived.Laws.OwnMore
namespace Go.Proofs.YtkjpllmicgakaaaGreat
open Go.RowKit

abbrev nS : ByteArray := ⟨#[110]⟩
abbrev mS : ByteArray := ⟨#[109]⟩
/-- The module with such a name at such a place. -/
def nmM (i : Nat) (s : ByteArray) : MMo :=
  if i = 0 then { imports := [⟨s, nS, 0⟩] } else if i = 1 then { imports := [⟨mS, s, 0⟩] } else { exports := [⟨s, 0⟩] }
theorem sec_one' {α : Type} (k : Int) (f : α → List Int) (c : α) : (secE k f [c]).length ≤ 21 + (f c).length := by
  have h1 := encU_len 9 (([c] : List α).length : Int)
  have h2 := encU_len 9 ((vecE f [c]).length : Int)
  show (k :: szE (vecE f [c])).length ≤ _
  unfold szE
  simp only [List.length_append, List.length_cons, vecE, List.flatMap_cons, List.flatMap_nil, List.length_nil] at h1 h2 ⊢
  omega
theorem nmE_len (s : ByteArray) : (nmE s).length ≤ 10 + s.size := by
  have h := encU_len 9 ((nb s).length : Int)
  unfold nmE szE
  rw [List.length_append, nb_len] at *
  omega
theorem may_nS : mayNm nS = true := by kernel_rfl
theorem may_mS : mayNm mS = true := by kernel_rfl
theorem nmM_len (i : Nat) (s : ByteArray) (h : s.size ≤ 16) : (moE (nmM i s)).length ≤ 8000 := by
  have h1 := nmE_len s
  have h2 := nmE_len nS
  have h3 := nmE_len mS
  have h4 : nS.size = 1 := rfl
  have h5 : mS.size = 1 := rfl
  have h6 := encU_len 9 0
  unfold nmM
  by_cases e0 : i = 0
  · rw [if_pos e0]
    have h7 := sec_one' 2 imE ⟨s, nS, 0⟩
    have e : moE { imports := [⟨s, nS, 0⟩] } = headE ++ ([] ++ (secE 2 imE [⟨s, nS, 0⟩] ++ [])) := by simp [moE, secE, present]
    rw [e]
    simp only [imE, numE, headE, List.length_append, List.length_cons, List.length_nil] at h7 ⊢
    omega
  · rw [if_neg e0]
    by_cases e1 : i = 1
    · rw [if_pos e1]
      have h7 := sec_one' 2 imE ⟨mS, s, 0⟩
      have e : moE { imports := [⟨mS, s, 0⟩] } = headE ++ ([] ++ (secE 2 imE [⟨mS, s, 0⟩] ++ [])) := by simp [moE, secE, present]
      rw [e]
      simp only [imE, numE, headE, List.length_append, List.length_cons, List.length_nil] at h7 ⊢
      omega
    · rw [if_neg e1]
      have h7 := sec_one' 7 exE ⟨s, 0⟩
      have e : moE { exports := [⟨s, 0⟩] } = headE ++ ([] ++ (secE 7 exE [⟨s, 0⟩] ++ [])) := by simp [moE, secE, present]
      rw [e]
      simp only [exE, numE, headE, List.length_append, List.length_cons, List.length_nil] at h7 ⊢
      omega
theorem nmM_may (i : Nat) (s : ByteArray) : mayMo (nmM i s) = mayNm s := by
  have hp : mayCounts (nmM i s) = true ∧ mayParts (nmM i s) = mayNm s := by
    have h0 : mayNu 0 = true := rfl
    unfold nmM
    by_cases e0 : i = 0
    · rw [if_pos e0]; exact ⟨rfl, by simp [mayParts, mayIm, may_nS, h0, mayLi]⟩
    · rw [if_neg e0]
      by_cases e1 : i = 1
      · rw [if_pos e1]; exact ⟨rfl, by simp [mayParts, mayIm, may_mS, h0, mayLi]⟩
      · rw [if_neg e1]; exact ⟨rfl, by simp [mayParts, mayEx, h0, mayLi]⟩
  unfold mayMo
  rw [hp.1, hp.2, Bool.true_and]
  cases h : mayNm s with
  | false => rfl
  | true =>
    have h16 : s.size ≤ 16 := by
      unfold mayNm at h
      simp only [Bool.and_eq_true, decide_eq_true_eq] at h
      exact h.1.2
    rw [Bool.true_and, decide_eq_true_eq]
    exact nmM_len i s h16
theorem nmM_eq (i : Nat) (s : ByteArray) : eqMo (nmM i s) (nmM i s) = true := by
  unfold nmM
  by_cases e0 : i = 0
  · rw [if_pos e0]; simp [eqMo, eqG, eqIm, eqLi]
  · rw [if_neg e0]
    by_cases e1 : i = 1
    · rw [if_pos e1]; simp [eqMo, eqG, eqIm, eqLi]
    · rw [if_neg e1]; simp [eqMo, eqG, eqEx, eqLi]
theorem nmM_ok (i : Nat) (s : ByteArray) : MoOk (nmM i s) := by
  unfold nmM
  by_cases e0 : i = 0
  · rw [if_pos e0]; exact ⟨fun x hx => (by cases hx), fun x hx => (by cases hx)⟩
  · rw [if_neg e0]
    by_cases e1 : i = 1
    · rw [if_pos e1]; exact ⟨fun x hx => (by cases hx), fun x hx => (by cases hx)⟩
    · rw [if_neg e1]; exact ⟨fun x hx => (by cases hx), fun x hx => (by cases hx)⟩
/-- A name of n bytes x. -/
theorem nb_of (xs : List Int) (h : ∀ x ∈ xs, 0 ≤ x ∧ x ≤ 255) : nb (strOfNums xs) = xs := by
  unfold nb
  rw [strOfNums_data]
  induction xs with
  | nil => rfl
  | cons a r ih =>
    have ha := h a (by simp)
    have hr := ih fun x hx => h x (by simp [hx])
    simp only [List.map_cons, List.map_map] at hr ⊢
    rw [hr]
    congr 1
    rw [UInt8.toNat_ofNat']
    omega
theorem nmM_table (i : Nat) (s : ByteArray) : (nmM i s).table = ⟨false, 0, 0⟩ := by unfold nmM; by_cases e0 : i = 0 <;> by_cases e1 : i = 1 <;> simp [e0, e1]
theorem nmM_mem (i : Nat) (s : ByteArray) : (nmM i s).mem = ⟨false, 0, 0⟩ := by unfold nmM; by_cases e0 : i = 0 <;> by_cases e1 : i = 1 <;> simp [e0, e1]
/-- Where its lists lie. -/
def nmV (i : Nat) (q : Nat) : MoV := if i = 2 then ⟨⟨none, 0, 0⟩, ⟨none, 0, 0⟩, ⟨none, 0, 0⟩, ⟨none, 0, 0⟩, ⟨some ⟨q, 0, none⟩, 1, 1⟩, ⟨none, 0, 0⟩, ⟨none, 0, 0⟩, ⟨none, 0, 0⟩⟩ else ⟨⟨none, 0, 0⟩, ⟨some ⟨q, 0, none⟩, 1, 1⟩, ⟨none, 0, 0⟩, ⟨none, 0, 0⟩, ⟨none, 0, 0⟩, ⟨none, 0, 0⟩, ⟨none, 0, 0⟩, ⟨none, 0, 0⟩⟩
def nmC (i : Nat) (s : ByteArray) : List Value := if i = 0 then [.string s, .string nS, .int .i64 0] else if i = 1 then [.string mS, .string s, .int .i64 0] else [.string s, .int .i64 0]
theorem nm_rx (i : Nat) (s : ByteArray) (q : Nat) (w : World) (hi : i < 3) (h : Cel w q (nmC i s)) : Rx w (MoR (nmV i q) (nmM i s)) := by
  have hlt := h.lt (by unfold nmC; by_cases e0 : i = 0 <;> by_cases e1 : i = 1 <;> simp [e0, e1])
  intro w' h'
  have hc := h.same (h' q hlt)
  have : i = 0 ∨ i = 1 ∨ i = 2 := by omega
  rcases this with rfl | rfl | rfl
  · exact ⟨RdG.empty w', Cel.one (cs := [.string s, .string nS, .int .i64 0]) hc rfl rfl, Rd.empty w' .i64, RdG.empty w', RdG.empty w', RdG.empty w', RdG.empty w', RdG.empty w'⟩
  · exact ⟨RdG.empty w', Cel.one (cs := [.string mS, .string s, .int .i64 0]) hc rfl rfl, Rd.empty w' .i64, RdG.empty w', RdG.empty w', RdG.empty w', RdG.empty w', RdG.empty w'⟩
  · exact ⟨RdG.empty w', RdG.empty w', Rd.empty w' .i64, RdG.empty w', Cel.one (cs := [.string s, .int .i64 0]) hc rfl rfl, RdG.empty w', RdG.empty w', RdG.empty w'⟩

theorem infoU8m : (Tryz.prog.info? 5).map (fun i => (i.zero, i.size, i.bytes)) = some (some (.int .u8 0), 1, 1) := infoU8
theorem make_u8 (n : Nat) (hn : n ≤ 1000000) (w : World) : ∃ w', (Instr.makeSlice 37 (.int .i64 (n : Int)) (.int .i64 (n : Int))).run Tryz.prog w = .ok (.slice (some ⟨w.heap.size, 0, none⟩) n n) w' ∧
    Own 5 .u8 w.heap.size w' (.slice (some ⟨w.heap.size, 0, none⟩) n n) (List.replicate n 0) ∧ Below w.heap.size w w' ∧ w'.heap.size = w.heap.size + 1 := by
  obtain ⟨i, hi0, hz, hsz, hby⟩ := info_parts infoU8m
  have hr := run_makeSlice (P := Tryz.prog) w 37 5 i (.int .u8 0) Tryz.underlying37 hi0 hz .i64 .i64 n n (by omega) (Int.le_refl _) (by rw [hsz]; simp; omega) (by rw [hby]; omega) (by omega)
  obtain ⟨w', hr2, ho, hg⟩ := run_makeSlice_full (P := Tryz.prog) w w.heap.size 37 5 i (.int .u8 0) 1 Tryz.underlying37 hi0 hz hsz .i64 .i64 n (by omega) (by rw [hby]; omega) (by unfold maxLen; omega) (Nat.le_refl _)
  have e : w' = w.alloc (.cells (madeCells (Value.int .u8 0).cells ((n : Int).toNat * i.size)) 5) := by
    rw [hr2] at hr
    exact (Result.ok.inj hr).2
  refine ⟨w', hr2, ⟨?_, fun x hx => ?_⟩, by rw [e]; exact Bl.alloc (Bl.refl w) _, by rw [e]; simp⟩
  · have e2 : (madeCells (Value.int .u8 0).cells (n * 1)).toList = (List.replicate n (0 : Int)).map (Value.int .u8) := by
      simp [madeCells, Value.cells, Nat.mod_one, List.map_const']
    rw [e2] at ho
    simpa using ho
  · rw [List.eq_of_mem_replicate hx]; decide
theorem rep_set (n k : Nat) (x : Int) (hk : k < n) : (List.replicate k x ++ List.replicate (n - k) 0).set k x = List.replicate (k + 1) x ++ List.replicate (n - (k + 1)) 0 := by
  obtain ⟨m, rfl⟩ : ∃ m, n = k + (m + 1) := ⟨n - k - 1, by omega⟩
  rw [show k + (m + 1) - k = m + 1 by omega, show k + (m + 1) - (k + 1) = m by omega, List.set_append_right _ _ (by simp)]
  rw [List.length_replicate, Nat.sub_self, List.replicate_succ, List.set_cons_zero, List.replicate_succ', List.append_assoc]
  rfl
end Go.Proofs.YtkjpllmicgakaaaGreat
