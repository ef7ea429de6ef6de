/- Nested blocks: what a block encloses fits by itself. Plain mathematics; no program is named here. -/
import Derived.Test.YtfambbpggodlkaaCodeMathB
namespace Go.Proofs.Ytfambbpggodlkaa

/-- A state further on: what was told stays; what is new is told of what came behind the first n. -/
structure Later (n : Nat) (s s' : Ns) : Prop where
  len : s.bl.length ≤ s'.bl.length
  at' : ∀ k, k < s.bl.length → (s'.bl.getD k default).at' = (s.bl.getD k default).at'
  els : ∀ k, k < s.bl.length → (s.bl.getD k default).els ≠ -1 → (s'.bl.getD k default).els = (s.bl.getD k default).els
  en : ∀ k, k < s.bl.length → (s.bl.getD k default).en ≠ -1 → (s'.bl.getD k default).en = (s.bl.getD k default).en
  els' : ∀ k, k < s.bl.length → (s.bl.getD k default).els = -1 → (s'.bl.getD k default).els = -1 ∨ (n : Int) ≤ (s'.bl.getD k default).els
  en' : ∀ k, k < s.bl.length → (s.bl.getD k default).en = -1 → (s'.bl.getD k default).en = -1 ∨ (n : Int) ≤ (s'.bl.getD k default).en
  new : ∀ k, s.bl.length ≤ k → k < s'.bl.length → (n : Int) ≤ (s'.bl.getD k default).at'
theorem Later.refl (n : Nat) (s : Ns) : Later n s s := ⟨Nat.le_refl _, fun _ _ => rfl, fun _ _ _ => rfl, fun _ _ _ => rfl, fun _ _ h => .inl h, fun _ _ h => .inl h, fun k h1 h2 => by omega⟩
theorem Later.trans {n m : Nat} {s t u : Ns} (h : Later n s t) (g : Later m t u) (hnm : n ≤ m) : Later n s u := by
  have hl := h.len
  refine ⟨Nat.le_trans h.len g.len, fun k hk => (g.at' k (by omega)).trans (h.at' k hk), fun k hk he => ?_, fun k hk he => ?_, fun k hk he => ?_, fun k hk he => ?_, fun k h1 h2 => ?_⟩
  · have e := h.els k hk he
    rw [g.els k (by omega) (by rw [e]; exact he), e]
  · have e := h.en k hk he
    rw [g.en k (by omega) (by rw [e]; exact he), e]
  · by_cases e : (t.bl.getD k default).els = -1
    · rcases g.els' k (by omega) e with h1 | h1
      · exact .inl h1
      · exact .inr (by omega)
    · rw [g.els k (by omega) e]
      exact h.els' k hk he
  · by_cases e : (t.bl.getD k default).en = -1
    · rcases g.en' k (by omega) e with h1 | h1
      · exact .inl h1
      · exact .inr (by omega)
    · rw [g.en k (by omega) e]
      exact h.en' k hk he
  · by_cases e : k < t.bl.length
    · rw [g.at' k e]
      exact h.new k h1 e
    · have := g.new k (by omega) h2
      omega
theorem Later.step {xs : List Int} {s s' : Ns} {x : Int} (h : NsInv xs s) (hs : nsStep xs.length x s = some s') : Later xs.length s s' := by
  unfold nsStep at hs
  by_cases hb : begins x = true
  · rw [if_pos hb] at hs
    by_cases h40 : s.op.length = 40
    · rw [if_pos h40] at hs; cases hs
    · rw [if_neg h40] at hs
      simp only [Option.some.injEq] at hs
      subst hs
      have hg : ∀ k, k < s.bl.length → ((s.bl ++ [(⟨(xs.length : Int), -1, -1⟩ : Bk)]).getD k default) = s.bl.getD k default := fun k hk => by rw [getD_snoc, if_neg (by omega)]
      refine ⟨by simp, fun k hk => by simp only [hg k hk], fun k hk _ => by simp only [hg k hk], fun k hk _ => by simp only [hg k hk], fun k hk h => .inl (by simp only [hg k hk]; exact h), fun k hk h => .inl (by simp only [hg k hk]; exact h), fun k h1 h2 => ?_⟩
      simp only [List.length_append, List.length_singleton] at h2
      rw [getD_snoc, if_pos (by omega)]
      exact Int.le_refl _
  · rw [if_neg hb] at hs
    by_cases h5 : x = 5
    · rw [if_pos h5] at hs
      match hop : s.op with
      | [] => rw [hop] at hs; cases hs
      | (k0, false) :: r => rw [hop] at hs; cases hs
      | (k0, true) :: r =>
        rw [hop] at hs
        simp only [Option.some.injEq] at hs
        subst hs
        obtain ⟨g1, g2, g3⟩ := h.opn (k0, true) (by rw [hop]; simp)
        simp only at g1 g2 g3
        have hel := (g3.1 trivial).2
        have hat : ∀ k, ((nsEls s k0 (xs.length : Int)).getD k default).at' = (s.bl.getD k default).at' := by
          intro k; unfold nsEls; rw [getD_set _ _ _ _ g1]
          by_cases e : k = k0
          · subst e; simp
          · simp [e]
        have hen : ∀ k, ((nsEls s k0 (xs.length : Int)).getD k default).en = (s.bl.getD k default).en := by
          intro k; unfold nsEls; rw [getD_set _ _ _ _ g1]
          by_cases e : k = k0
          · subst e; simp
          · simp [e]
        have hes : ∀ k, ((nsEls s k0 (xs.length : Int)).getD k default).els = if k = k0 then (xs.length : Int) else (s.bl.getD k default).els := by
          intro k; unfold nsEls; rw [getD_set _ _ _ _ g1]
          by_cases e : k = k0
          · subst e; simp
          · simp [e]
        have hll : (nsEls s k0 (xs.length : Int)).length = s.bl.length := by simp [nsEls]
        refine ⟨by simp only [hll]; exact Nat.le_refl _, fun k _ => hat k, fun k _ he => ?_, fun k _ _ => hen k, fun k _ he => ?_, fun k _ he => .inl (by simp only [hen]; exact he), fun k h1 h2 => by simp only [hll] at h2; omega⟩
        · simp only [hes]
          rw [if_neg (fun e => by subst e; exact he hel)]
        · simp only [hes]
          by_cases e : k = k0
          · rw [if_pos e]; exact .inr (Int.le_refl _)
          · rw [if_neg e]; exact .inl he
    · rw [if_neg h5] at hs
      by_cases h11 : x = 11
      · rw [if_pos h11] at hs
        match hop : s.op with
        | [] => rw [hop] at hs; cases hs
        | (k0, f0) :: r =>
          rw [hop] at hs
          simp only [Option.some.injEq] at hs
          subst hs
          obtain ⟨g1, g2, g3⟩ := h.opn (k0, f0) (by rw [hop]; simp)
          simp only at g1 g2 g3
          have hat : ∀ k, ((nsEnd s k0 (xs.length : Int)).getD k default).at' = (s.bl.getD k default).at' := by
            intro k; unfold nsEnd; rw [getD_set _ _ _ _ g1]
            by_cases e : k = k0
            · subst e; simp
            · simp [e]
          have hes : ∀ k, ((nsEnd s k0 (xs.length : Int)).getD k default).els = (s.bl.getD k default).els := by
            intro k; unfold nsEnd; rw [getD_set _ _ _ _ g1]
            by_cases e : k = k0
            · subst e; simp
            · simp [e]
          have hen : ∀ k, ((nsEnd s k0 (xs.length : Int)).getD k default).en = if k = k0 then (xs.length : Int) else (s.bl.getD k default).en := by
            intro k; unfold nsEnd; rw [getD_set _ _ _ _ g1]
            by_cases e : k = k0
            · subst e; simp
            · simp [e]
          have hll : (nsEnd s k0 (xs.length : Int)).length = s.bl.length := by simp [nsEnd]
          refine ⟨by simp only [hll]; exact Nat.le_refl _, fun k _ => hat k, fun k _ _ => hes k, fun k _ he => ?_, fun k _ he => .inl (by simp only [hes]; exact he), fun k _ he => ?_, fun k h1 h2 => by simp only [hll] at h2; omega⟩
          · simp only [hen]
            rw [if_neg (fun e => by subst e; exact he g2)]
          · simp only [hen]
            by_cases e : k = k0
            · rw [if_pos e]; exact .inr (Int.le_refl _)
            · rw [if_neg e]; exact .inl he
      · rw [if_neg h11] at hs
        simp only [Option.some.injEq] at hs
        subst hs
        exact Later.refl _ _

/-- From each instruction on to the last one. -/
theorem later_of {xs : List Int} {s : Ns} (h : runN 0 xs nsStart = some s) : ∀ (m n : Nat), n + m = xs.length → ∀ t, runN 0 (xs.take n) nsStart = some t → Later n t s
  | 0, n, hn, t, ht => by
    rw [List.take_of_length_le (by omega), h] at ht
    cases ht
    exact Later.refl _ _
  | m + 1, n, hn, t, ht => by
    obtain ⟨t0, t1, h1, h2, h3⟩ := runN_take h n (by omega)
    rw [ht] at h1
    cases h1
    have hl : (xs.take n).length = n := by rw [List.length_take]; omega
    have hinv := NsInv.of _ _ rfl _ ht
    have h4 : Later n t t1 := by
      have := Later.step hinv (by rw [hl]; exact h2)
      rwa [hl] at this
    exact h4.trans (later_of h m (n + 1) (by omega) t1 h3) (by omega)

/-! The flags alone. -/
def flS (d : Nat) (x : Int) (st : List Bool) : Option (List Bool) :=
  if begins x = true then (if d ≤ st.length then none else some ((x == 4) :: st))
  else if x = 5 then (match st with | true :: r => some (false :: r) | _ => none)
  else if x = 11 then (match st with | _ :: r => some r | [] => none)
  else some st
def fl (d : Nat) : List Int → List Bool → Option (List Bool)
  | [], st => some st
  | x :: r, st => (flS d x st).bind (fl d r)
theorem fl_append (d : Nat) : ∀ (xs ys : List Int) (st : List Bool), fl d (xs ++ ys) st = (fl d xs st).bind (fl d ys)
  | [], _, _ => rfl
  | x :: r, ys, st => by
    simp only [List.cons_append, fl]
    cases flS d x st with
    | none => rfl
    | some s' => simp only [Option.bind_some]; exact fl_append d r ys s'
theorem flS_more {d e : Nat} (h : d ≤ e) {x : Int} {st st' : List Bool} (hs : flS d x st = some st') : flS e x st = some st' := by
  unfold flS at hs ⊢
  by_cases hb : begins x = true
  · rw [if_pos hb] at hs ⊢
    by_cases h1 : d ≤ st.length
    · rw [if_pos h1] at hs; cases hs
    · rw [if_neg h1] at hs
      by_cases h2 : e ≤ st.length
      · omega
      · rw [if_neg h2]; exact hs
  · rw [if_neg hb] at hs ⊢
    exact hs
theorem fl_more {d e : Nat} (h : d ≤ e) : ∀ (xs : List Int) (st st' : List Bool), fl d xs st = some st' → fl e xs st = some st'
  | [], _, _, hs => hs
  | x :: r, st, st', hs => by
    simp only [fl] at hs ⊢
    cases h1 : flS d x st with
    | none => rw [h1] at hs; cases hs
    | some s1 =>
      rw [h1] at hs
      rw [flS_more h h1]
      exact fl_more h r s1 st' hs
theorem fits_some' {xs : List Int} {s : Ns} (h : runN 0 xs nsStart = some s) (ho : s.op.length = 0) (hl : xs.length ≤ 300) : fits xs = some s.bl := by
  unfold fits
  rw [if_neg (by omega), h]
  obtain ⟨bl, op⟩ := s
  cases op with
  | nil => rfl
  | cons p r => simp at ho
def flags (s : Ns) : List Bool := s.op.map Prod.snd
theorem flS_run (i : Nat) (x : Int) (s : Ns) (h : s.op.length ≤ 40) : (nsStep i x s).map flags = flS 40 x (flags s) ∧ ∀ t, nsStep i x s = some t → t.op.length ≤ 40 := by
  unfold nsStep flS
  by_cases hb : begins x = true
  · rw [if_pos hb, if_pos hb]
    by_cases h40 : s.op.length = 40
    · rw [if_pos h40, if_pos (by simp [flags]; omega)]
      exact ⟨rfl, fun t ht => by cases ht⟩
    · rw [if_neg h40, if_neg (by simp [flags]; omega)]
      exact ⟨rfl, fun t ht => by cases ht; simp; omega⟩
  · rw [if_neg hb, if_neg hb]
    by_cases h5 : x = 5
    · rw [if_pos h5, if_pos h5]
      obtain ⟨bl, op⟩ := s
      match op, h with
      | [], _ => exact ⟨rfl, fun t ht => by cases ht⟩
      | (k0, false) :: r, _ => exact ⟨rfl, fun t ht => by cases ht⟩
      | (k0, true) :: r, h => exact ⟨rfl, fun t ht => by cases ht; simpa using h⟩
    · rw [if_neg h5, if_neg h5]
      by_cases h11 : x = 11
      · rw [if_pos h11, if_pos h11]
        obtain ⟨bl, op⟩ := s
        match op, h with
        | [], _ => exact ⟨rfl, fun t ht => by cases ht⟩
        | (k0, f) :: r, h => exact ⟨rfl, fun t ht => by cases ht; simp at h ⊢; omega⟩
      · rw [if_neg h11, if_neg h11]
        exact ⟨rfl, fun t ht => by cases ht; exact h⟩
theorem fl_run : ∀ (xs : List Int) (i : Nat) (s : Ns), s.op.length ≤ 40 → (runN i xs s).map flags = fl 40 xs (flags s)
  | [], _, _, _ => rfl
  | x :: r, i, s, h => by
    obtain ⟨h1, h2⟩ := flS_run i x s h
    simp only [runN, fl]
    rw [← h1]
    cases hs : nsStep i x s with
    | none => rfl
    | some t =>
      simp only [Option.bind_some, Option.map_some]
      exact fl_run r (i + 1) t (h2 t hs)
theorem fl_fits {m : List Int} (hl : m.length ≤ 300) (h : fl 40 m [] = some []) : (fits m).isSome = true := by
  have h1 := fl_run m 0 nsStart (by simp [nsStart])
  have h2 : flags nsStart = [] := rfl
  rw [h2, h] at h1
  cases hr : runN 0 m nsStart with
  | none => rw [hr] at h1; cases h1
  | some s =>
    rw [hr] at h1
    simp only [Option.map_some, Option.some.injEq] at h1
    have h0 : s.op.length = 0 := by
      have := congrArg List.length h1
      simpa [flags] using this
    rw [fits_some' hr h0 hl]
    rfl
theorem fl_of {xs : List Int} {n : Nat} {t : Ns} (h : runN 0 (xs.take n) nsStart = some t) : fl 40 (xs.take n) [] = some (flags t) := by
  have h1 := fl_run (xs.take n) 0 nsStart (by simp [nsStart])
  rw [h] at h1
  exact h1.symm

section
variable {xs : List Int} {sf : Ns}

theorem take_len {n : Nat} (h : n ≤ xs.length) : (xs.take n).length = n := by rw [List.length_take]; omega

/-- While a block is open and its part goes on, what comes fits above it. -/
theorem seg (h : runN 0 xs nsStart = some sf) {c E k : Nat} {f : Bool} {r : List (Nat × Bool)} {tc : Ns} (hc : runN 0 (xs.take c) nsStart = some tc) (hop : tc.op = (k, f) :: r) (hE : E ≤ xs.length)
    (hen : (sf.bl.getD k default).en = -1 ∨ (E : Int) ≤ (sf.bl.getD k default).en) (hel : f = false ∨ (sf.bl.getD k default).els = -1 ∨ (E : Int) ≤ (sf.bl.getD k default).els) :
    ∀ m, c + m ≤ E → ∃ t τ, runN 0 (xs.take (c + m)) nsStart = some t ∧ t.op = τ ++ (k, f) :: r ∧ fl (39 - r.length) ((xs.drop c).take m) [] = some (τ.map Prod.snd)
  | 0, _ => ⟨tc, [], hc, hop, rfl⟩
  | m + 1, hm => by
    obtain ⟨t, τ, h1, h2, h3⟩ := seg h hc hop hE hen hel m (by omega)
    obtain ⟨t0, t', e1, e2, e3⟩ := runN_take h (c + m) (by omega)
    rw [h1] at e1
    cases e1
    have hinv := NsInv.of _ _ rfl _ h1
    have htl := take_len (xs := xs) (n := c + m) (by omega)
    have hlat := later_of h (xs.length - (c + m + 1)) (c + m + 1) (by omega) t' e3
    obtain ⟨g1, g2, g3⟩ := hinv.opn (k, f) (by rw [h2]; simp)
    simp only at g1 g2 g3
    have hst := Later.step hinv (by rw [htl]; exact e2)
    have hk' : k < t'.bl.length := by have := hst.len; omega
    have hdeep := hinv.deep
    have hnx : (xs.drop c).take (m + 1) = (xs.drop c).take m ++ [xs.getD (c + m) 0] := by
      rw [List.take_succ_eq_append_getElem (by simp; omega)]
      simp [List.getD, show c + m < xs.length by omega]
    obtain ⟨x, hx⟩ : ∃ x, x = xs.getD (c + m) 0 := ⟨_, rfl⟩
    rw [← hx] at e2 hnx
    rw [hnx, show c + (m + 1) = c + m + 1 by omega]
    have hfl : ∀ τ', flS (39 - r.length) x (τ.map Prod.snd) = some (τ'.map Prod.snd) → t'.op = τ' ++ (k, f) :: r → ∃ t τ, runN 0 (xs.take (c + m + 1)) nsStart = some t ∧ t.op = τ ++ (k, f) :: r ∧ fl (39 - r.length) ((xs.drop c).take m ++ [x]) [] = some (τ.map Prod.snd) := by
      intro τ' q1 q2
      refine ⟨t', τ', e3, q2, ?_⟩
      rw [fl_append, h3]
      simp only [Option.bind_some, fl, q1]
    unfold nsStep at e2
    by_cases hb : begins x = true
    · rw [if_pos hb] at e2
      by_cases h40 : t.op.length = 40
      · rw [if_pos h40] at e2; cases e2
      · rw [if_neg h40] at e2
        cases e2
        have hl : τ.length + 1 + r.length < 40 := by rw [h2] at h40 hdeep; simp at h40 hdeep; omega
        refine hfl ((t.bl.length, x == 4) :: τ) ?_ (by simp [h2])
        unfold flS
        rw [if_pos hb, if_neg (by rw [List.length_map]; omega)]
        rfl
    · rw [if_neg hb] at e2
      by_cases h5 : x = 5
      · rw [if_pos h5] at e2
        rw [h2] at e2
        match τ, h2, h3, hfl, e2 with
        | [], h2, h3, hfl, e2 =>
          cases f with
          | false => cases e2
          | true =>
            exfalso
            simp only [List.nil_append, Option.some.injEq] at e2
            subst e2
            have hes : ((nsEls t k ((c + m : Nat) : Int)).getD k default).els = ((c + m : Nat) : Int) := by
              unfold nsEls; rw [getD_set _ _ _ _ g1, if_pos rfl]
            have := hlat.els k hk' (by simp only; rw [hes]; omega)
            simp only at this
            rw [hes] at this
            rcases hel with q | q | q
            · cases q
            · omega
            · omega
        | (k1, false) :: τ1, h2, h3, hfl, e2 => cases e2
        | (k1, true) :: τ1, h2, h3, hfl, e2 =>
          simp only [List.cons_append, Option.some.injEq] at e2
          subst e2
          refine hfl ((k1, false) :: τ1) ?_ rfl
          unfold flS
          rw [if_neg hb, if_pos h5]
          rfl
      · rw [if_neg h5] at e2
        by_cases h11 : x = 11
        · rw [if_pos h11] at e2
          rw [h2] at e2
          match τ, h2, h3, hfl, e2 with
          | [], h2, h3, hfl, e2 =>
            exfalso
            simp only [List.nil_append, Option.some.injEq] at e2
            subst e2
            have hes : ((nsEnd t k ((c + m : Nat) : Int)).getD k default).en = ((c + m : Nat) : Int) := by
              unfold nsEnd; rw [getD_set _ _ _ _ g1, if_pos rfl]
            have := hlat.en k hk' (by simp only; rw [hes]; omega)
            simp only at this
            rw [hes] at this
            rcases hen with q | q
            · omega
            · omega
          | (k1, f1) :: τ1, h2, h3, hfl, e2 =>
            simp only [List.cons_append, Option.some.injEq] at e2
            subst e2
            refine hfl τ1 ?_ rfl
            unfold flS
            rw [if_neg hb, if_neg h5, if_pos h11]
            rfl
        · rw [if_neg h11] at e2
          cases e2
          refine hfl τ ?_ h2
          unfold flS
          rw [if_neg hb, if_neg h5, if_neg h11]

theorem top_one {op τ r : List (Nat × Bool)} {k : Nat} {f f0 : Bool} {r0 : List (Nat × Bool)} (hd : op.Pairwise fun p q => q.1 < p.1) (h1 : op = τ ++ (k, f) :: r) (h2 : op = (k, f0) :: r0) : τ = [] ∧ f = f0 ∧ r = r0 := by
  cases τ with
  | nil => rw [h2] at h1; simp at h1; exact ⟨rfl, h1.1.symm, h1.2.symm⟩
  | cons p q =>
    exfalso
    rw [h2] at h1
    simp only [List.cons_append, List.cons.injEq] at h1
    obtain ⟨rfl, h3⟩ := h1
    rw [h2, List.pairwise_cons] at hd
    have := hd.1 (k, f) (by rw [h3]; simp)
    simp at this

/-- Where a block ends. -/
theorem close (h : runN 0 xs nsStart = some sf) {e k : Nat} {f : Bool} {r τ : List (Nat × Bool)} {t : Ns} (he : e < xs.length) (ht : runN 0 (xs.take e) nsStart = some t) (hop : t.op = τ ++ (k, f) :: r) (hen : (sf.bl.getD k default).en = (e : Int)) :
    τ = [] ∧ ∃ t', runN 0 (xs.take (e + 1)) nsStart = some t' ∧ t'.op = r := by
  obtain ⟨t0, t', e1, e2, e3⟩ := runN_take h e he
  rw [ht] at e1
  cases e1
  have hinv := NsInv.of _ _ rfl _ ht
  have htl := take_len (xs := xs) (n := e) (by omega)
  have hlat := later_of h (xs.length - (e + 1)) (e + 1) (by omega) t' e3
  obtain ⟨g1, g2, g3⟩ := hinv.opn (k, f) (by rw [hop]; simp)
  simp only at g1 g2 g3
  have hst := Later.step hinv (by rw [htl]; exact e2)
  have hk' : k < t'.bl.length := by have := hst.len; omega
  have hne : (t'.bl.getD k default).en ≠ -1 := fun q => by
    have := hlat.en' k hk' q
    omega
  unfold nsStep at e2
  by_cases hb : begins (xs.getD e 0) = true
  · rw [if_pos hb] at e2
    by_cases h40 : t.op.length = 40
    · rw [if_pos h40] at e2; cases e2
    · rw [if_neg h40] at e2
      cases e2
      simp only at hne
      rw [getD_snoc, if_neg (by omega)] at hne
      exact absurd g2 hne
  · rw [if_neg hb] at e2
    by_cases h5 : xs.getD e 0 = 5
    · rw [if_pos h5] at e2
      match hop2 : t.op with
      | [] => rw [hop2] at e2; cases e2
      | (k0, false) :: r0 => rw [hop2] at e2; cases e2
      | (k0, true) :: r0 =>
        rw [hop2] at e2
        cases e2
        exfalso
        apply hne
        have hk0 := (hinv.opn (k0, true) (by rw [hop2]; simp)).1
        simp only at hk0 ⊢
        unfold nsEls
        rw [getD_set _ _ _ _ hk0]
        by_cases q : k = k0
        · subst q; simp only [if_true]; exact g2
        · rw [if_neg q]; exact g2
    · rw [if_neg h5] at e2
      by_cases h11 : xs.getD e 0 = 11
      · rw [if_pos h11] at e2
        match hop2 : t.op with
        | [] => rw [hop2] at e2; cases e2
        | (k0, f0) :: r0 =>
          rw [hop2] at e2
          cases e2
          have hk0 := (hinv.opn (k0, f0) (by rw [hop2]; simp)).1
          simp only at hk0 hne
          by_cases q : k = k0
          · subst q
            obtain ⟨q1, _, q3⟩ := top_one hinv.dec hop hop2
            exact ⟨q1, _, e3, q3.symm⟩
          · exfalso
            unfold nsEnd at hne
            rw [getD_set _ _ _ _ hk0, if_neg q] at hne
            exact hne g2
      · rw [if_neg h11] at e2
        cases e2
        exact absurd g2 hne

/-- Where it parts. -/
theorem parts (h : runN 0 xs nsStart = some sf) {l k : Nat} (hl : l < xs.length) (hk : k < sf.bl.length) (hat : (sf.bl.getD k default).at' < l) (hel : (sf.bl.getD k default).els = (l : Int)) :
    ∃ t t' r, runN 0 (xs.take l) nsStart = some t ∧ t.op = (k, true) :: r ∧ runN 0 (xs.take (l + 1)) nsStart = some t' ∧ t'.op = (k, false) :: r ∧ ((sf.bl.getD k default).en = -1 ∨ (l : Int) + 1 ≤ (sf.bl.getD k default).en) := by
  obtain ⟨t, t', e1, e2, e3⟩ := runN_take h l hl
  have hinv := NsInv.of _ _ rfl _ e1
  have htl := take_len (xs := xs) (n := l) (by omega)
  have hlat0 := later_of h (xs.length - l) l (by omega) t e1
  have hlat := later_of h (xs.length - (l + 1)) (l + 1) (by omega) t' e3
  have hkt : k < t.bl.length := by
    rcases Nat.lt_or_ge k t.bl.length with q | q
    · exact q
    · have := hlat0.new k q hk
      omega
  have hst := Later.step hinv (by rw [htl]; exact e2)
  have hk' : k < t'.bl.length := by have := hst.len; omega
  have g2 : (t.bl.getD k default).els = -1 := by
    rcases hinv.els k hkt with q | q
    · exact q
    · have := hlat0.els k hkt (by have := (hinv.lo k hkt).1; omega)
      rw [htl] at q
      omega
  have hne : (t'.bl.getD k default).els ≠ -1 := fun q => by
    have := hlat.els' k hk' q
    omega
  unfold nsStep at e2
  by_cases hb : begins (xs.getD l 0) = true
  · rw [if_pos hb] at e2
    by_cases h40 : t.op.length = 40
    · rw [if_pos h40] at e2; cases e2
    · rw [if_neg h40] at e2
      cases e2
      simp only at hne
      rw [getD_snoc, if_neg (by omega)] at hne
      exact absurd g2 hne
  · rw [if_neg hb] at e2
    by_cases h5 : xs.getD l 0 = 5
    · rw [if_pos h5] at e2
      match hop2 : t.op with
      | [] => rw [hop2] at e2; cases e2
      | (k0, false) :: r0 => rw [hop2] at e2; cases e2
      | (k0, true) :: r0 =>
        rw [hop2] at e2
        cases e2
        obtain ⟨hk0, hen0, _⟩ := hinv.opn (k0, true) (by rw [hop2]; simp)
        simp only at hk0 hen0 hne
        by_cases q : k = k0
        · subst q
          refine ⟨t, _, r0, e1, hop2, e3, rfl, ?_⟩
          have hen1 : ((nsEls t k (l : Int)).getD k default).en = -1 := by
            unfold nsEls
            rw [getD_set _ _ _ _ hk0, if_pos rfl]
            exact hen0
          have := hlat.en' k hk' hen1
          omega
        · exfalso
          unfold nsEls at hne
          rw [getD_set _ _ _ _ hk0, if_neg q] at hne
          exact hne g2
    · rw [if_neg h5] at e2
      by_cases h11 : xs.getD l 0 = 11
      · rw [if_pos h11] at e2
        match hop2 : t.op with
        | [] => rw [hop2] at e2; cases e2
        | (k0, f0) :: r0 =>
          rw [hop2] at e2
          cases e2
          exfalso
          apply hne
          have hk0 := (hinv.opn (k0, f0) (by rw [hop2]; simp)).1
          simp only at hk0 ⊢
          unfold nsEnd
          rw [getD_set _ _ _ _ hk0]
          by_cases q : k = k0
          · subst q; simp only [if_true]; exact g2
          · rw [if_neg q]; exact g2
      · rw [if_neg h11] at e2
        cases e2
        exact absurd g2 hne

/-- Where it begins. -/
theorem opened_at (h : runN 0 xs nsStart = some sf) {a k : Nat} (ha : a < xs.length) (hk : k < sf.bl.length) (hat : (sf.bl.getD k default).at' = (a : Int)) :
    ∃ t t' f, runN 0 (xs.take a) nsStart = some t ∧ runN 0 (xs.take (a + 1)) nsStart = some t' ∧ t'.op = (k, f) :: t.op := by
  obtain ⟨t, t', e1, e2, e3⟩ := runN_take h a ha
  have hinv := NsInv.of _ _ rfl _ e1
  have htl := take_len (xs := xs) (n := a) (by omega)
  have hlat0 := later_of h (xs.length - a) a (by omega) t e1
  have hlat := later_of h (xs.length - (a + 1)) (a + 1) (by omega) t' e3
  have hk1 : ¬ k < t.bl.length := fun q => by
    have h1 := hlat0.at' k q
    have h2 := (hinv.lo k q).2
    rw [htl] at h2
    omega
  have hk2 : k < t'.bl.length := by
    rcases Nat.lt_or_ge k t'.bl.length with q | q
    · exact q
    · have := hlat.new k q hk
      omega
  unfold nsStep at e2
  by_cases hb : begins (xs.getD a 0) = true
  · rw [if_pos hb] at e2
    by_cases h40 : t.op.length = 40
    · rw [if_pos h40] at e2; cases e2
    · rw [if_neg h40] at e2
      cases e2
      simp only [List.length_append, List.length_singleton] at hk2
      have : k = t.bl.length := by omega
      subst this
      exact ⟨t, _, _, e1, e3, rfl⟩
  · rw [if_neg hb] at e2
    exfalso
    by_cases h5 : xs.getD a 0 = 5
    · rw [if_pos h5] at e2
      match hop2 : t.op with
      | [] => rw [hop2] at e2; cases e2
      | (k0, false) :: r0 => rw [hop2] at e2; cases e2
      | (k0, true) :: r0 =>
        rw [hop2] at e2
        cases e2
        simp [nsEls] at hk2
        omega
    · rw [if_neg h5] at e2
      by_cases h11 : xs.getD a 0 = 11
      · rw [if_pos h11] at e2
        match hop2 : t.op with
        | [] => rw [hop2] at e2; cases e2
        | (k0, f0) :: r0 =>
          rw [hop2] at e2
          cases e2
          simp [nsEnd] at hk2
          omega
      · rw [if_neg h11] at e2
        cases e2
        omega
end

theorem seg_take (xs : List Int) (c E m : Nat) (h : c + m = E) : (xs.drop c).take m = (xs.take E).drop c := by
  subst h
  rw [List.drop_take]
  congr 1
  omega

/-- What a block encloses fits; what is left without it fits. -/
theorem inner {xs : List Int} {bl : List Bk} (hF : Fit xs bl) {k : Nat} (hk : k < bl.length) {a e : Nat} (hat : (bl.getD k default).at' = (a : Int)) (hen : (bl.getD k default).en = (e : Int)) :
    (fits (xs.take a ++ xs.drop (e + 1))).isSome = true ∧ ((bl.getD k default).els = -1 → (fits ((xs.take e).drop (a + 1))).isSome = true) ∧
    (∀ l : Nat, (bl.getD k default).els = (l : Int) → a < l ∧ l < e ∧ (fits ((xs.take l).drop (a + 1))).isSome = true ∧ (fits ((xs.take e).drop (l + 1))).isSome = true) := by
  have hcl := hF.closed k hk
  have hlen := hF.len
  rw [hat, hen] at hcl
  have hae : a < e := by omega
  have hex : e < xs.length := by omega
  have h := hF.run
  obtain ⟨t, t1, f, h1, h2, h3⟩ := opened_at h (by omega) hk hat
  have bal : ∀ {d : Nat} {m : List Int}, m.length ≤ 300 → d ≤ 40 → fl d m [] = some [] → (fits m).isSome = true := fun hl hd hm => fl_fits hl (fl_more hd _ _ _ hm)
  have fin : ∀ t', runN 0 (xs.take (e + 1)) nsStart = some t' → t'.op = t.op → (fits (xs.take a ++ xs.drop (e + 1))).isSome = true := by
    intro t' q1 q2
    have r1 := fl_of h1
    have r2 := fl_of q1
    have r3 := fl_of (n := xs.length) (by rw [List.take_of_length_le (Nat.le_refl _)]; exact h)
    rw [List.take_of_length_le (Nat.le_refl _), ← List.take_append_drop (e + 1) xs, fl_append, r2] at r3
    simp only [Option.bind_some] at r3
    refine fl_fits (by simp; omega) ?_
    rw [fl_append, r1]
    simp only [Option.bind_some]
    have : flags t' = flags t := by unfold flags; rw [q2]
    rw [← this, r3]
    rfl
  have hels : (bl.getD k default).els = -1 → ∃ t', runN 0 (xs.take (e + 1)) nsStart = some t' ∧ t'.op = t.op ∧ (fits ((xs.take e).drop (a + 1))).isSome = true := by
    intro hel
    obtain ⟨te, τ, s1, s2, s3⟩ := seg h h2 h3 (E := e) (by omega) (.inr (by simp only; omega)) (.inr (.inl hel)) (e - (a + 1)) (by omega)
    rw [show a + 1 + (e - (a + 1)) = e by omega] at s1
    obtain ⟨c1, t', c2, c3⟩ := close h hex s1 s2 hen
    subst c1
    rw [seg_take xs (a + 1) e _ (by omega)] at s3
    exact ⟨t', c2, c3, bal (by simp; omega) (by omega) s3⟩
  have helse : ∀ l : Nat, (bl.getD k default).els = (l : Int) → ∃ t', runN 0 (xs.take (e + 1)) nsStart = some t' ∧ t'.op = t.op ∧ a < l ∧ l < e ∧ (fits ((xs.take l).drop (a + 1))).isSome = true ∧ (fits ((xs.take e).drop (l + 1))).isSome = true := by
    intro l hel
    have hlo : a < l ∧ l < xs.length := by
      rcases hF.inv.els k hk with q | q
      · simp only at q; omega
      · simp only at q; omega
    obtain ⟨tl, tl1, r, p1, p2, p3, p4, p5⟩ := parts h hlo.2 hk (by simp only; omega) hel
    simp only at p5
    have hle : l < e := by omega
    obtain ⟨te, τ, s1, s2, s3⟩ := seg h h2 h3 (E := l) (by omega) (.inr (by simp only; omega)) (.inr (.inr (by simp only; omega))) (l - (a + 1)) (by omega)
    rw [show a + 1 + (l - (a + 1)) = l by omega, p1] at s1
    cases s1
    have hinv := NsInv.of _ _ rfl _ p1
    obtain ⟨q1, _, q3⟩ := top_one hinv.dec s2 p2
    subst q1 q3
    obtain ⟨te2, τ2, u1, u2, u3⟩ := seg h p3 p4 (E := e) (by omega) (.inr (by simp only; omega)) (.inl rfl) (e - (l + 1)) (by omega)
    rw [show l + 1 + (e - (l + 1)) = e by omega] at u1
    obtain ⟨c1, t', c2, c3⟩ := close h hex u1 u2 hen
    subst c1
    rw [seg_take xs (a + 1) l _ (by omega)] at s3
    rw [seg_take xs (l + 1) e _ (by omega)] at u3
    exact ⟨t', c2, c3, hlo.1, hle, bal (by simp; omega) (by omega) s3, bal (by simp; omega) (by omega) u3⟩
  refine ⟨?_, fun q => ?_, fun l q => ?_⟩
  · rcases hF.inv.els k hk with q | q
    · obtain ⟨t', c2, c3, _⟩ := hels q
      exact fin t' c2 c3
    · simp only at q
      obtain ⟨t', c2, c3, _⟩ := helse (bl.getD k default).els.toNat (by omega)
      exact fin t' c2 c3
  · obtain ⟨_, _, _, c⟩ := hels q
    exact c
  · obtain ⟨_, _, _, c⟩ := helse l q
    exact c
end Go.Proofs.Ytfambbpggodlkaa
