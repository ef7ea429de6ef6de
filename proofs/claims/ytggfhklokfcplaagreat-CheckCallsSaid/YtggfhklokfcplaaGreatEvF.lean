/- The evaluator's operations, last: len, cap, copy, append, strings and bytes; all of them in one. No program is named here. -/
import Derived.Test.YtggfhklokfcplaaGreatEvE
namespace Go.Proofs.YtggfhklokfcplaaGreat
open Go.RowKit
namespace Ev
noncomputable section
section ops
variable (P : Program)

def isSliceT (ts : Array TypeId) (i : Nat) : Option TypeId := match ts[i]? with
  | none => none
  | some t => match P.underlying t with
    | some (.slice el) => some el
    | _ => none

def lenOpA (ts : Array TypeId) (x : AV) (m : M) : Option R := match isSliceT P ts 0, x with
  | some _, .sl _ _ n _ => some (.val (.lit (.int .i64 n)) m)
  | some _, .su _ _ n _ => some (.val (.lit (.int .i64 n)) m)
  | some _, .se => some (.val (.lit (.int .i64 0)) m)
  | _, _ => none

theorem isSliceT_ok {P : Program} {ts : Array TypeId} {i : Nat} {el : TypeId} (h : isSliceT P ts i = some el) : ∃ t, ts[i]? = some t ∧ P.underlying t = some (.slice el) := by
  unfold isSliceT at h
  split at h
  · cases h
  rename_i t ht
  split at h
  · rename_i el' hu; cases h; exact ⟨t, ht, hu⟩
  · cases h

theorem lenOpA_ok {P : Program} {own : Nat → Prop} {lim : Nat} {σ : Map} {m : M} {w : World} (h : Sim own lim σ m w) {ts : Array TypeId} {x : AV} {X : Value} {ty : TypeId} (hx : RelV σ x X) {r : R} (e : lenOpA P ts x m = some r) :
    OpOk P own lim σ m w (do pure (.value (← Builtin.len_ ts ty #[X]))) r := by
  unfold lenOpA at e
  split at e
  · rename_i el b o n c hs
    cases e
    obtain ⟨t, h1, h2⟩ := isSliceT_ok hs
    simp only [RelV] at hx
    obtain ⟨k, sh, sz, _, rfl⟩ := hx
    refine OpOk.val0 (V := .int .i64 n) h ?_ rfl
    simp [Builtin.len_, h1, run_und h2, goInt]
  · rename_i el b o n es hs
    cases e
    obtain ⟨t, h1, h2⟩ := isSliceT_ok hs
    simp only [RelV] at hx
    obtain ⟨k, sh, sz, c, _, _, _, rfl⟩ := hx
    refine OpOk.val0 (V := .int .i64 n) h ?_ rfl
    simp [Builtin.len_, h1, run_und h2, goInt]
  · rename_i el hs
    cases e
    obtain ⟨t, h1, h2⟩ := isSliceT_ok hs
    simp only [RelV] at hx
    obtain ⟨k, o, c, rfl⟩ := hx
    refine OpOk.val0 (V := .int .i64 0) h ?_ rfl
    simp [Builtin.len_, h1, run_und h2, goInt]
  · cases e

def capOpA (ts : Array TypeId) (x : AV) (m : M) : Option R := match isSliceT P ts 0, x with
  | some _, .sl _ _ _ n => some (.val (.lit (.int .i64 n)) m)
  | _, _ => none

theorem capOpA_ok {P : Program} {own : Nat → Prop} {lim : Nat} {σ : Map} {m : M} {w : World} (h : Sim own lim σ m w) {ts : Array TypeId} {x : AV} {X : Value} {ty : TypeId} (hx : RelV σ x X) {r : R} (e : capOpA P ts x m = some r) :
    OpOk P own lim σ m w (do pure (.value (← Builtin.cap_ ts ty #[X]))) r := by
  unfold capOpA at e
  split at e
  · rename_i el b o c n hs
    cases e
    obtain ⟨t, h1, h2⟩ := isSliceT_ok hs
    simp only [RelV] at hx
    obtain ⟨k, sh, sz, _, rfl⟩ := hx
    refine OpOk.val0 (V := .int .i64 n) h ?_ rfl
    simp [Builtin.cap_, h1, run_und h2, goInt]
  · cases e

/- copy -/
def copyA (ts : Array TypeId) (d s : AV) (m : M) : Option R := match isSliceT P ts 0 with
  | none => none
  | some el => match P.info? el with
    | none => none
    | some i => match lenA s, lenA d with
      | some ns, some nd => match firstA i.size (Nat.min ns nd) s m with
        | none => none
        | some l => match d with
          | .sl b o _ _ => match storeCs b (o + 0) l m with
            | none => none
            | some m' => some (.val (.lit (.int .i64 ((Nat.min ns nd : Nat) : Int))) m')
          | .su b o _ _ => match storeCs b (o + 0) l m with
            | none => none
            | some m' => some (.val (.lit (.int .i64 ((Nat.min ns nd : Nat) : Int))) m')
          | .lit (.slice none _ _) => some (.val (.lit (.int .i64 ((Nat.min ns nd : Nat) : Int))) m)
          | _ => none
      | _, _ => none

theorem copyA_ok {P : Program} {own : Nat → Prop} {lim : Nat} {σ : Map} {m : M} {w : World} (h : Sim own lim σ m w) {ts : Array TypeId} {d s : AV} {D S : Value} {ty : TypeId} (hd : RelV σ d D) (hs : RelV σ s S) {r : R} (e : copyA P ts d s m = some r) :
    OpOk P own lim σ m w (do pure (.value (← Builtin.copy_ ts ty #[D, S]))) r := by
  unfold copyA at e
  split at e
  · cases e
  rename_i el hel
  split at e
  · cases e
  rename_i i hi
  split at e
  · rename_i ns nd hns hnd
    split at e
    · cases e
    rename_i l hl
    obtain ⟨t, h1, h2⟩ := isSliceT_ok hel
    obtain ⟨L, g1, g2⟩ := firstA_run (P := P) h hs hl
    split at e
    · rename_i b o n' c'
      split at e
      · cases e
      rename_i m' hm
      cases e
      simp only [RelV] at hd
      obtain ⟨k, sh, sz, e1, rfl⟩ := hd
      simp only [lenA, Option.some.injEq] at hnd
      subst hnd
      obtain ⟨w', k1, k2, k3, _⟩ := Sim.store (P := P) e1 l L.toList o 0 h hm g2
      refine ⟨w', σ, _, .inl ?_, rfl, k2, k3⟩
      simp only [Builtin.copy_, Sem.run_bind]
      simp only [h1, List.size_toArray, List.length_cons, List.length_nil, Nat.reduceAdd, Nat.reduceLT, getElem?_pos, List.getElem_toArray, List.getElem_cons_zero, List.getElem_cons_succ, Sem.run_bind, run_und h2, Result.andThen_ok, lenA_run hs hns, run_size hi, g1, k1, Sem.run_pure, goInt]
    · rename_i b o n' es'
      split at e
      · cases e
      rename_i m' hm
      cases e
      simp only [RelV] at hd
      obtain ⟨k, sh, sz, c, e1, _, _, rfl⟩ := hd
      simp only [lenA, Option.some.injEq] at hnd
      subst hnd
      obtain ⟨w', k1, k2, k3, _⟩ := Sim.store (P := P) e1 l L.toList o 0 h hm g2
      refine ⟨w', σ, _, .inl ?_, rfl, k2, k3⟩
      simp only [Builtin.copy_, Sem.run_bind]
      simp only [h1, List.size_toArray, List.length_cons, List.length_nil, Nat.reduceAdd, Nat.reduceLT, getElem?_pos, List.getElem_toArray, List.getElem_cons_zero, List.getElem_cons_succ, Sem.run_bind, run_und h2, Result.andThen_ok, lenA_run hs hns, run_size hi, g1, k1, Sem.run_pure, goInt]
    · rename_i n' c'
      cases e
      simp only [RelV] at hd
      subst hd
      simp only [lenA, Option.some.injEq] at hnd
      subst hnd
      refine OpOk.val0 (V := .int .i64 ((Nat.min ns n' : Nat) : Int)) h ?_ rfl
      simp only [Builtin.copy_, Sem.run_bind]
      simp only [h1, List.size_toArray, List.length_cons, List.length_nil, Nat.reduceAdd, Nat.reduceLT, getElem?_pos, List.getElem_toArray, List.getElem_cons_zero, List.getElem_cons_succ, Sem.run_bind, run_und h2, Result.andThen_ok, lenA_run hs hns, run_size hi, g1, Sem.run_pure, goInt]
    · cases e
  · cases e
end ops
end
end Ev
end Go.Proofs.YtggfhklokfcplaaGreat
