/- Words of my own over the guide's library, for every seat: slices of whole numbers that are read, slices of the call's own, an append for any source, a scope whose run jumps back to one label. No program is named here. -/
import Derived.WalkKit
import Derived.OpenShut
import Derived.Laws.AppendOwnNone
import Derived.Deep.Draws
namespace Go.Proofs.Ytjihemgidogoeaa
open Go.RowKit

theorem hid {p : Prop} (h : p) : Hid p := h

/-- A slice value's parts: it reads as the numbers xs in the world w. -/
structure Rd (k : IntKind) (w : World) (ao : Option Addr) (n cap : Nat) (xs : List Int) : Prop where
  len : xs.length = n
  le : n ≤ cap
  max : cap ≤ maxLen
  nil : ao = none → cap = 0
  cell : ∀ ad, ao = some ad → ∀ i, i < n → w.cell? (ad.add i) = some (.int k (xs.getD i 0))
  wf : ∀ x ∈ xs, (Lit.int k x).wf = true

section
variable {k : IntKind} {w w' : World} {ao : Option Addr} {n cap : Nat} {xs : List Int}

theorem Rd.below (h : Rd k w ao n cap xs) (hb : Below w.heap.size w w') : Rd k w' ao n cap xs :=
  ⟨h.len, h.le, h.max, h.nil, fun ad ha i hi => by
    have hc := h.cell ad ha i hi
    have hlt := World.block_lt_of_cell? w _ hc
    exact (hb.cell hlt).trans hc, h.wf⟩

theorem Rd.empty (w : World) (k : IntKind) : Rd k w none 0 0 [] :=
  ⟨rfl, Nat.le_refl _, Nat.zero_le _, fun _ => rfl, (fun _ h => by cases h), (fun _ h => by cases h)⟩

/-- Where there is an element, the address is a plain one and each cell is told. -/
theorem Rd.at (h : Rd k w ao n cap xs) (hp : 0 < n) : ∃ b off, ao = some ⟨b, off, none⟩ ∧ ∀ i, i < n → w.cell? ⟨b, off + i, none⟩ = some (.int k (xs.getD i 0)) := by
  cases ao with
  | none => have := h.nil rfl; have := h.le; omega
  | some ad =>
    have hl := h.len
    subst hl
    obtain ⟨b, off, rfl, hc⟩ := ints_at (h.cell ad rfl) hp
    exact ⟨b, off, rfl, hc⟩

theorem Rd.upto (h : Rd k w ao n cap xs) {i : Nat} (hi : i ≤ n) : Rd k w ao i cap (xs.take i) := by
  have hl := h.len
  have hle := h.le
  refine ⟨by simp; omega, by omega, h.max, h.nil, fun ad ha j hj => ?_, fun x hx => h.wf x (List.mem_of_mem_take hx)⟩
  rw [h.cell ad ha j (by omega)]
  simp [List.getD, hj]

theorem Rd.news (h : Rd k w ao n cap xs) {ad : Addr} (ha : ao = some ad) : ∀ j u, (xs.map (Value.int k))[j]? = some u → w.cell? (ad.add j) = some u := by
  intro j u hu
  have hj : j < xs.length := by
    have := (List.getElem?_eq_some_iff.1 hu).1
    simpa using this
  rw [h.cell ad ha j (by rw [← h.len]; exact hj)]
  rw [← hu]
  simp [List.getD, hj]
end

/-- A slice value that the call itself has made (its block is at least number base), reading as xs. -/
structure Own (E : TypeId) (k : IntKind) (base : Nat) (w : World) (v : Value) (xs : List Int) : Prop where
  row : w.ownsRow base E 1 v xs.length (xs.map (Value.int k))
  wf : ∀ x ∈ xs, (Lit.int k x).wf = true

section
variable {E : TypeId} {k : IntKind} {base B : Nat} {w w' : World} {v : Value} {xs : List Int}

theorem Own.below (h : Own E k base w v xs) (hb : Below B w w') (hB : w.heap.size ≤ B) : Own E k base w' v xs := by
  refine ⟨h.row.kept (row := none) ⟨hb.os, hb.tape, hb.output, hb.size, fun k hk _ => hb.block k (by omega)⟩ ?_, h.wf⟩
  cases hv : v.ownBlock <;> simp

theorem Own.lift (h : Own E k base w v xs) {base' : Nat} (hb : base' ≤ base) : Own E k base' w v xs := by
  refine ⟨⟨h.row.1, ?_⟩, h.wf⟩
  rcases h.row.2 with h2 | ⟨g, cap, cur, hv, hg, r⟩
  · exact .inl h2
  · exact .inr ⟨g, cap, cur, hv, by omega, r⟩

/-- What is owned is read: its parts. -/
theorem Own.rd (h : Own E k base w v xs) : ∃ ao cap, v = .slice ao xs.length cap ∧ Rd k w ao xs.length cap xs := by
  rcases h.row.2 with ⟨rfl, hn⟩ | ⟨g, cap, cur, rfl, hb, hg, hle, hmax, hsz, htake⟩
  · have hx : xs = [] := List.eq_nil_of_length_eq_zero hn
    subst hx
    exact ⟨none, 0, rfl, Rd.empty w k⟩
  · refine ⟨some ⟨g, 0, none⟩, cap, rfl, rfl, hle, hmax, (fun hh => by cases hh), ?_, h.wf⟩
    intro ad ha i hi
    cases ha
    have hc := h.row.cells (g := g) rfl i (.int k (xs.getD i 0)) (by simp [List.getD, hi])
    exact hc

theorem Own.nil (E : TypeId) (k : IntKind) (base : Nat) (w : World) : Own E k base w (.slice none 0 0) [] :=
  ⟨World.ownsRow_nil w base E 1, fun _ h => by cases h⟩

theorem Own.lt (h : Own E k base w v xs) : ∀ b, v.ownBlock = some b → base ≤ b ∧ b < w.heap.size := h.row.lt
end

/-- 'append(v, src...)', v of the call's own (or nil), src whatever is read as numbers. -/
theorem wpList_append_rd {P : Program} {w : World} {ops : Array Oper} {rest : List Oper} {o : Oper} {a : Act} {Q : Exit → Act → World → Prop} (hgd : o.guard = none) (s x : Operand) (t : TypeId)
    (ho : o.op = .call { callee := .builtin .append, args := #[s, x], argTypes := #[t, t] })
    (E : TypeId) (k : IntKind) (base : Nat) (bytes : Nat) (ht : P.underlying t = some (.slice E)) (hi : (P.info? E).map (fun i => (i.zero, i.size, i.bytes)) = some (some (.int k 0), 1, bytes))
    (v : Value) (xs : List Int) (hs : a.eval s = v) (hown : Own E k base w v xs)
    (ao : Option Addr) (n cap : Nat) (ys : List Int) (hx : a.eval x = .slice ao n cap) (hr : Rd k w ao n cap ys)
    (h63 : xs.length + n ≤ 4611686018427387904) (hbytes : (xs.length + n) * bytes ≤ 140737488355328) (hbase : base ≤ w.heap.size)
    (h : ∀ v' w', Own E k base w' v' (xs ++ ys) → Below base w w' → (∀ b, v.ownBlock ≠ some b → b < w.heap.size → w'.heap[b]? = w.heap[b]?) → wpList P ops Q rest (a.put o.dst v') w') : wpList P ops Q (o :: rest) a w := by
  obtain ⟨i, hi0, hz, hsz, hby⟩ := info_parts hi
  cases ao with
  | none =>
    have hc := hr.nil rfl
    have hn : n = 0 := by have := hr.le; omega
    have hy : ys = [] := List.eq_nil_of_length_eq_zero (by rw [hr.len]; exact hn)
    subst hc hn hy
    refine wpList_append_own_none hgd s x t ho base E i 1 ht hi0 v xs.length _ hs hown.row hx ?_
    refine h v w (by simpa using hown) (Below.refl _ _) (fun _ _ _ => rfl)
  | some ad =>
    refine wpList_append_own w hgd s x t ho base E i (.int k 0) 1 bytes ht hi0 hz hsz hby rfl (by decide) v xs.length _ hs hown.row ad n cap (ys.map (Value.int k)) hx (by simp [hr.len]) (hr.news rfl) (ints_oneCell _ _) (by unfold maxLen; omega) hbytes hbase ?_
    intro v' w' h1 h2 _
    refine h v' w' ⟨?_, ?_⟩ ((Below.refl _ _).grown h2 hbase (fun b hb => (hown.lt b hb).1)) (fun b hb hlt => h2.block b hlt (fun e => hb e.symm))
    · rw [List.map_append]
      simpa [hr.len] using h1
    · intro z hz'
      rcases List.mem_append.1 hz' with hz' | hz'
      · exact hown.wf z hz'
      · exact hr.wf z hz'

/-- One element that stands in a block of its own: what 'append(v, x)' is handed. -/
theorem Rd.built (w : World) (k : IntKind) (E : TypeId) (x : Int) (h : (Lit.int k x).wf = true) : Rd k (w.alloc (.cells #[.int k x] E)) (some ⟨w.heap.size, 0, none⟩) 1 1 [x] := by
  refine ⟨rfl, Nat.le_refl _, by unfold maxLen; omega, (fun h => by cases h), ?_, ?_⟩
  · intro ad ha i hi
    cases ha
    obtain rfl : i = 0 := by omega
    simp [Addr.add, World.cell?_alloc_at]
  · intro y hy
    simp at hy
    subst hy
    exact h
theorem Own.alloc {E : TypeId} {k : IntKind} {base : Nat} {w : World} {v : Value} {xs : List Int} (h : Own E k base w v xs) (o : Obj) : Own E k base (w.alloc o) v xs := ⟨h.row.alloc o, h.wf⟩

theorem byte_cases {p : Int → Prop} (h : ∀ x : Fin 256, p (x.val : Int)) (x : Int) (h0 : 0 ≤ x) (h1 : x ≤ 255) : p x := by
  have := h ⟨x.toNat, by omega⟩
  simpa [Int.toNat_of_nonneg h0] using this
theorem or128 (x : Int) (h0 : 0 ≤ x) (h1 : x ≤ 255) : bits BinOp.or IntKind.u8 x 128 = x % 128 + 128 :=
  byte_cases (p := fun x => bits BinOp.or IntKind.u8 x 128 = x % 128 + 128) (by decide +kernel) x h0 h1
theorem and127 (x : Int) (h0 : 0 ≤ x) (h1 : x ≤ 255) : bits BinOp.and IntKind.u8 x 127 = x % 128 :=
  byte_cases (p := fun x => bits BinOp.and IntKind.u8 x 127 = x % 128) (by decide +kernel) x h0 h1
theorem and128 (x : Int) (h0 : 0 ≤ x) (h1 : x ≤ 255) : bits BinOp.and IntKind.u8 x 128 = x / 128 * 128 :=
  byte_cases (p := fun x => bits BinOp.and IntKind.u8 x 128 = x / 128 * 128) (by decide +kernel) x h0 h1

theorem bits_and_mask (k : IntKind) (i : Nat) (hi : i < k.bits) (hw : ∀ n : Int, 0 ≤ n → n < 2 ^ i → k.wrap n = n) (x : Int) : bits BinOp.and k x (2 ^ i - 1) = x % 2 ^ i := by
  unfold bits
  have h2 : (BitVec.ofInt k.bits (2 ^ i - 1)).toNat = 2 ^ i - 1 := by
    have hlt : (2 : Nat) ^ i < 2 ^ k.bits := Nat.pow_lt_pow_right (by decide) hi
    have hp : 0 < (2 : Nat) ^ i := Nat.pow_pos (by decide)
    rw [show ((2 : Int) ^ i - 1) = (((2 ^ i - 1 : Nat)) : Int) from by rw [Int.natCast_sub (by omega)]; simp]
    rw [BitVec.ofInt_natCast, BitVec.toNat_ofNat]
    exact Nat.mod_eq_of_lt (by omega)
  simp only [BitVec.toNat_and, h2, Nat.and_two_pow_sub_one_eq_mod, BitVec.toNat_ofInt]
  have hd : (2 : Int) ^ i ∣ (2 : Int) ^ k.bits := ⟨2 ^ (k.bits - i), by rw [← Int.pow_add]; congr 1; omega⟩
  have hp : (0 : Int) < 2 ^ i := Int.pow_pos (by decide)
  have he : (((x % ((2 ^ k.bits : Nat) : Int)).toNat % 2 ^ i : Nat) : Int) = x % 2 ^ i := by
    have h0 : 0 ≤ x % ((2 ^ k.bits : Nat) : Int) := Int.emod_nonneg _ (by have : 0 < 2 ^ k.bits := Nat.pow_pos (by decide); omega)
    rw [Int.natCast_emod, Int.toNat_of_nonneg h0]
    simp only [Int.natCast_pow, Int.cast_ofNat_Int]
    exact Int.emod_emod_of_dvd _ hd
  rw [he]
  exact hw _ (Int.emod_nonneg _ (by omega)) (Int.emod_lt_of_pos _ hp)
theorem and127_i64 (x : Int) : bits BinOp.and IntKind.i64 x 127 = x % 128 :=
  bits_and_mask .i64 7 (by decide) (fun n h0 h1 => by
    have : (2:Int)^7 = 128 := by decide
    exact IntWalk.i64_in n (by omega)) x
theorem bits_or_shift (k : IntKind) (i : Nat) (x y : Int) (hx : 0 ≤ x) (hy : 0 ≤ y) (hyi : y < 2 ^ i) (hxi : x % 2 ^ i = 0) (hxk : x < 2 ^ k.bits) (hi : i ≤ k.bits) (hw : k.wrap (x + y) = x + y) : bits BinOp.or k x y = x + y := by
  obtain ⟨x, rfl⟩ := Int.eq_ofNat_of_zero_le hx
  obtain ⟨y, rfl⟩ := Int.eq_ofNat_of_zero_le hy
  have hxk' : x < 2 ^ k.bits := by exact_mod_cast hxk
  have hyi' : y < 2 ^ i := by exact_mod_cast hyi
  have hxi' : x % 2 ^ i = 0 := by exact_mod_cast hxi
  have hyk : y < 2 ^ k.bits := Nat.lt_of_lt_of_le hyi' (Nat.pow_le_pow_right (by decide) hi)
  unfold bits
  have ho : (BitVec.ofInt k.bits (x : Int) ||| BitVec.ofInt k.bits (y : Int)).toNat = x + y := by
    rw [BitVec.toNat_or, BitVec.ofInt_natCast, BitVec.ofInt_natCast, BitVec.toNat_ofNat, BitVec.toNat_ofNat, Nat.mod_eq_of_lt hxk', Nat.mod_eq_of_lt hyk]
    obtain ⟨q, rfl⟩ := Nat.dvd_of_mod_eq_zero hxi'
    rw [Nat.mul_comm, ← Nat.shiftLeft_eq]
    exact (Nat.shiftLeft_add_eq_or_of_lt hyi' q).symm
  simp only [ho]
  rw [Int.natCast_add]
  exact hw

theorem two_pow_le {a b : Nat} (h : a ≤ b) : (2 : Int) ^ a ≤ 2 ^ b := by
  have h1 : ((2 ^ a : Nat) : Int) ≤ ((2 ^ b : Nat) : Int) := Int.ofNat_le.2 (Nat.pow_le_pow_right (by decide) h)
  rw [Int.natCast_pow, Int.natCast_pow] at h1
  exact h1

/-- 'string(b)'. -/
theorem conv_str {P : Program} {w : World} {ao : Option Addr} {n cap : Nat} {xs : List Int} (hr : Rd .u8 w ao n cap xs) (src dst e : TypeId) (hs : P.underlying src = some (.slice e)) (he : P.underlying e = some (.int .u8)) (hd : P.underlying dst = some .string) :
    (convert src dst (.slice ao n cap)).run P w = .ok (.string (strOfNums xs)) w := by
  cases ao with
  | none =>
    have hc := hr.nil rfl
    have hn : n = 0 := by have := hr.le; omega
    have hy : xs = [] := List.eq_nil_of_length_eq_zero (by rw [hr.len]; exact hn)
    subst hy
    exact run_convert_bytes_nil w src e hs he n cap dst hd
  | some ad =>
    have hl : (loadCells ad n).run P w = .ok (xs.map (Value.int .u8)).toArray w := by
      have := run_loadCells_list (P := P) w ad (xs.map (Value.int .u8)) (hr.news rfl)
      simpa [hr.len] using this
    rw [run_convert_bytes_string w src dst e _ n cap hs he hd, run_bytesToString w _ n cap xs hl, foldl_push_bytes]
    simp [strOfNums, ByteArray.empty, ByteArray.emptyWithCapacity]
    rfl
theorem strOfNums_inj : ∀ {xs ys : List Int}, (∀ x ∈ xs, 0 ≤ x ∧ x ≤ 255) → (∀ y ∈ ys, 0 ≤ y ∧ y ≤ 255) → strOfNums xs = strOfNums ys → xs = ys := by
  intro xs ys hx hy h
  have h1 : (strOfNums xs).data.toList = (strOfNums ys).data.toList := by rw [h]
  rw [strOfNums_data, strOfNums_data] at h1
  clear h
  induction xs generalizing ys with
  | nil => cases ys <;> simp_all
  | cons x r ih =>
    cases ys with
    | nil => simp at h1
    | cons y q =>
      simp only [List.map_cons, List.cons.injEq] at h1
      have e : x = y := by
        have a := hx x (by simp)
        have b := hy y (by simp)
        have := congrArg UInt8.toNat h1.1
        simp at this
        omega
      rw [e, ih (fun z hz => hx z (by simp [hz])) (fun z hz => hy z (by simp [hz])) h1.2]

/-- A scope whose run comes to one label (J holds there) and jumps back to it. The walk from the scope's head to the label is done for any way out. -/
theorem wp_scope_loop {P : Program} {a : Act} {w : World} {Q : Exit → Act → World → Prop} {c rest : Code} (l : Nat) (J : Act → World → Prop) (μ : Act → World → Nat) (hf : findLabel c l = some (.seq .skip rest))
    (first : ∀ Q', (∀ a w, J a w → rest.wp P Q' a w) → c.wp P Q' a w)
    (pass : ∀ a w, J a w → rest.wp P (Exit.jump l (fun a' w' => J a' w' ∧ μ a' w' < μ a w) Q) a w) : (Code.scope c).wp P Q a w := by
  refine wp_scope_jumps l J μ hf (first _ fun a w hJ => ?_) (fun a w hJ => wp_seq (wp_skip (pass a w hJ)))
  refine wp_mono (pass a w hJ) ?_
  intro e a' w' h
  cases e <;> simp_all [Exit.jump]

/-! ### More words on what is read. -/
theorem Rd.of_row {k : IntKind} {w : World} {a : Option Addr} {len cap : Nat} {zs : List Int} (h : (a = none ∧ len = 0 ∧ cap = 0 ∧ zs = []) ∨
  ∃ x, a = some x ∧ len ≤ cap ∧ cap ≤ maxLen ∧ zs.length = cap ∧ (∀ i, i < zs.length → w.cell? (x.add i) = some (.int k (zs.getD i 0))) ∧ ∀ n ∈ zs, (Lit.int k n).wf = true) : Rd k w a len cap (zs.take len) := by
  rcases h with ⟨rfl, rfl, rfl, rfl⟩ | ⟨x, rfl, hl, hm, hz, hc, hw⟩
  · exact Rd.empty w k
  · have h : Rd k w (some x) cap cap zs := ⟨hz, Nat.le_refl _, hm, (fun h => by cases h), (fun ad ha i hi => by cases ha; exact hc i (by omega)), hw⟩
    exact h.upto hl

theorem Rd.short {k : IntKind} {w : World} {ao : Option Addr} {n cap : Nat} {xs : List Int} (h : Rd k w ao n cap xs) (m : Nat) : Rd k w ao (min n m) cap (xs.take (min n m)) := h.upto (Nat.min_le_left _ _)
theorem Rd.cap63 {k : IntKind} {w : World} {ao : Option Addr} {n cap : Nat} {xs : List Int} (h : Rd k w ao n cap xs) : cap ≤ 9223372036854775807 := by have := h.max; unfold maxLen at this; omega

theorem Rd.from {k : IntKind} {w : World} {b off n cap : Nat} {xs : List Int} (h : Rd k w (some ⟨b, off, none⟩) n cap xs) {i : Nat} (hi : i ≤ n) : Rd k w (some ⟨b, off + i, none⟩) (n - i) (cap - i) (xs.drop i) := by
  have hl := h.len
  have hle := h.le
  have hm := h.max
  refine ⟨by simp; omega, by omega, by omega, (fun h => by cases h), fun ad ha j hj => ?_, fun x hx => h.wf x (List.mem_of_mem_drop hx)⟩
  cases ha
  have := h.cell _ rfl (i + j) (by omega)
  rw [Addr.add_lit] at this ⊢
  rw [Nat.add_assoc, this]
  simp [List.getD]
theorem Rd.nought {k : IntKind} {w : World} {b off : Nat} : Rd k w (some ⟨b, off, none⟩) 0 0 [] := ⟨rfl, Nat.le_refl _, Nat.zero_le _, (fun h => by cases h), (fun _ _ i hi => by omega), (fun _ h => by cases h)⟩
/-- Two elements that stand in a block of their own. -/
theorem Rd.built2 (w : World) (k : IntKind) (E : TypeId) (x y : Int) (h : (Lit.int k x).wf = true) (h' : (Lit.int k y).wf = true) : Rd k (w.alloc (.cells #[.int k x, .int k y] E)) (some ⟨w.heap.size, 0, none⟩) 2 2 [x, y] := by
  refine ⟨rfl, Nat.le_refl _, by unfold maxLen; omega, (fun h => by cases h), ?_, ?_⟩
  · intro ad ha i hi
    cases ha
    rcases (show i = 0 ∨ i = 1 from by omega) with rfl | rfl
    · simp [Addr.add, World.cell?_alloc_at]
    · simp [Addr.add, World.cell?_alloc_at]
  · intro z hz
    simp at hz
    rcases hz with rfl | rfl
    · exact h
    · exact h'

/-- Any elements that stand in a block of their own. -/
theorem Rd.builtAll (w : World) (k : IntKind) (E : TypeId) (fz : Nat × Nat) (xs : List Int) (hn : xs.length ≤ maxLen) (h : ∀ x ∈ xs, (Lit.int k x).wf = true) : Rd k (w.alloc (.cells (xs.map (Value.int k)).toArray E fz)) (some ⟨w.heap.size, 0, none⟩) xs.length xs.length xs := by
  refine ⟨rfl, Nat.le_refl _, hn, (fun h => by cases h), ?_, h⟩
  intro ad ha i hi
  cases ha
  rw [Addr.add_lit, Nat.zero_add]
  have h0 : (w.alloc (.cells (xs.map (Value.int k)).toArray E fz)).heap[w.heap.size]? = some (.cells (xs.map (Value.int k)).toArray E fz) := by
    show (w.heap.push (.cells (xs.map (Value.int k)).toArray E fz))[w.heap.size]? = _
    simp
  unfold World.cell?
  dsimp only
  rw [h0]
  simp [hi]
/-- The address of a piece 'b[l:..]': where nothing is left it stays. -/
def cutAt (ao : Option Addr) (l cap : Nat) (s : Nat := 1) : Option Addr := if cap = l then ao else ao.map (·.add (l * s))
theorem run_cut {P : Program} (t : TypeId) (ht : P.underlying t = some (.slice (P.elem t))) {s : Nat} (hs : ∀ w, (sizeOf (P.elem t)).run P w = .ok s w) (ao : Option Addr) (n cap : Nat) (l h : Int) (l' h' : Nat) (hl : l = l') (hh : h = h') (h1 : l' ≤ h') (h2 : h' ≤ cap) (w : World) :
    (Instr.sliceAt t (.slice ao n cap) (some (.int .i64 l)) (some (.int .i64 h)) none).run P w = .ok (.slice (cutAt ao l' cap s) (h' - l') (cap - l')) w := by
  subst hl hh
  rw [run_sliceAt_slice w t _ _ _ _ ht, run_slice_lh w t ao n cap ht .i64 .i64 _ _ (by omega) (by omega) (by omega), hs]
  simp [sliced, cutAt]
theorem run_cut_l {P : Program} (t : TypeId) (ht : P.underlying t = some (.slice (P.elem t))) {s : Nat} (hs : ∀ w, (sizeOf (P.elem t)).run P w = .ok s w) (ao : Option Addr) (n cap : Nat) (l : Int) (l' : Nat) (hl : l = l') (h1 : l' ≤ n) (w : World) :
    (Instr.sliceAt t (.slice ao n cap) (some (.int .i64 l)) none none).run P w = .ok (.slice (cutAt ao l' cap s) (n - l') (cap - l')) w := by
  subst hl
  rw [run_sliceAt_slice w t _ _ _ _ ht, run_slice_l w t ao n cap ht .i64 _ (by omega) (by omega), hs]
  simp [sliced, cutAt]
theorem run_cut_h {P : Program} (t : TypeId) (ht : P.underlying t = some (.slice (P.elem t))) {s : Nat} (hs : ∀ w, (sizeOf (P.elem t)).run P w = .ok s w) (ao : Option Addr) (n cap : Nat) (h : Int) (h' : Nat) (hh : h = h') (h2 : h' ≤ cap) (w : World) :
    (Instr.sliceAt t (.slice ao n cap) none (some (.int .i64 h)) none).run P w = .ok (.slice ao h' cap) w := by
  subst hh
  rw [run_sliceAt_slice w t _ _ _ _ ht, run_slice_h w t ao n cap ht .i64 _ (by omega) (by omega), hs]
  by_cases e : cap = 0
  · simp [sliced, e]
  · simp [sliced, e]
    cases ao <;> simp [Addr.add]
theorem Rd.cut {k : IntKind} {w : World} {ao : Option Addr} {n cap : Nat} {xs : List Int} (h : Rd k w ao n cap xs) (l h' : Nat) (h1 : l ≤ h') (h2 : h' ≤ n) : Rd k w (cutAt ao l cap) (h' - l) (cap - l) ((xs.take h').drop l) := by
  have hl := h.len
  have hle := h.le
  have hm := h.max
  unfold cutAt
  by_cases e : cap = l
  · rw [if_pos e]
    have e0 : h' = l := by omega
    subst e0
    refine ⟨by simp, by omega, by omega, (fun _ => by omega), (fun _ _ i hi => by omega), fun x hx => ?_⟩
    rw [List.drop_eq_nil_of_le (by simp; omega)] at hx
    cases hx
  · rw [if_neg e]
    refine ⟨by simp; omega, by omega, by omega, (fun hn => ?_), fun ad ha j hj => ?_, fun x hx => h.wf x (List.mem_of_mem_take (List.mem_of_mem_drop hx))⟩
    · cases ao with
      | none => have := h.nil rfl; omega
      | some ad => simp at hn
    · cases ao with
      | none => simp at ha
      | some ad0 =>
        simp only [Option.map_some, Option.some.injEq] at ha
        subst ha
        have := h.cell _ rfl (l + j) (by omega)
        have e2 : (ad0.add (l * 1)).add j = ad0.add (l + j) := by rw [Addr.add_add, Nat.mul_one]
        rw [e2, this]
        have : j < h' - l := hj
        simp [List.getD, show l + j < h' by omega]
/-- A cell of a slice of the call's own is written. -/
theorem Own.set {E : TypeId} {k : IntKind} {base : Nat} {w : World} {g n cap : Nat} {xs : List Int} (h : Own E k base w (.slice (some ⟨g, 0, none⟩) n cap) xs) (i : Nat) (x : Int) (hx : (Lit.int k x).wf = true) :
    Own E k base (w.setCell ⟨g, i, none⟩ (.int k x)) (.slice (some ⟨g, 0, none⟩) n cap) (xs.set i x) := by
  have hn : n = xs.length := by
    rcases h.row.2 with ⟨h', _⟩ | ⟨g', cap', cur, h', _⟩
    · simp at h'
    · simp at h'; exact h'.2.1
  subst hn
  refine ⟨?_, fun y hy => ?_⟩
  · have := (h.row.stored i (.int k x)).1
    rw [← List.map_set] at this
    rwa [List.length_set]
  · rcases List.mem_or_eq_of_mem_set hy with hy | rfl
    · exact h.wf y hy
    · exact hx
theorem Own.form {E : TypeId} {k : IntKind} {base : Nat} {w : World} {v : Value} {xs : List Int} (h : Own E k base w v xs) (hx : 0 < xs.length) : ∃ g cap, v = .slice (some ⟨g, 0, none⟩) xs.length cap ∧ base ≤ g ∧ xs.length ≤ cap ∧ cap ≤ 9223372036854775807 := by
  rcases h.row.2 with ⟨_, h0⟩ | ⟨g, cap, cur, rfl, hb, _, hle, hm, _⟩
  · omega
  · exact ⟨g, cap, rfl, hb, hle, by unfold maxLen at hm; omega⟩
/-- Another block is written. -/
theorem Own.aside {E : TypeId} {k : IntKind} {base : Nat} {w : World} {v : Value} {xs : List Int} (h : Own E k base w v xs) {p : Addr} (hp : ∀ b, v.ownBlock = some b → b ≠ p.block) (u : Value) : Own E k base (w.setCell p u) v xs := by
  refine ⟨h.row.kept (row := some p.block) ⟨rfl, rfl, rfl, by simp, fun i _ hi => Below.heap_setCell w p u i (fun e => hi (by rw [e]))⟩ ?_, h.wf⟩
  cases hv : v.ownBlock with
  | none => exact .inl rfl
  | some b => exact .inr (fun e => hp b hv (by simpa using e))
theorem Own.drew {E : TypeId} {k : IntKind} {base : Nat} {w : World} {v : Value} {xs : List Int} (h : Own E k base w v xs) : Own E k base w.drew v xs := ⟨h.row, h.wf⟩
theorem Own.cell {E : TypeId} {k : IntKind} {base : Nat} {w : World} {g n cap : Nat} {xs : List Int} (h : Own E k base w (.slice (some ⟨g, 0, none⟩) n cap) xs) (i : Nat) (hi : i < xs.length) :
    w.cell? ⟨g, i, none⟩ = some (.int k (xs.getD i 0)) ∧ w.frozen? ⟨g, i, none⟩ = false ∧ base ≤ g ∧ g < w.heap.size ∧ n = xs.length := by
  have hn : n = xs.length := by
    rcases h.row.2 with ⟨h', _⟩ | ⟨g', cap', cur, h', _⟩
    · simp at h'
    · simp at h'; exact h'.2.1
  subst hn
  refine ⟨?_, h.row.frozenAt i, (h.lt g rfl).1, (h.lt g rfl).2, rfl⟩
  rw [h.row.cellAt i (by omega)]
  simp [List.getD, hi]
theorem Rd.mem {k : IntKind} {w : World} {ao : Option Addr} {n cap : Nat} {xs : List Int} (h : Rd k w ao n cap xs) {i : Nat} (hi : i < n) : xs.getD i 0 ∈ xs := by
  have : i < xs.length := by rw [h.len]; exact hi
  simp [List.getD, this]
theorem below_drewN (B : Nat) (w : World) (n : Nat) : Below B w (w.drewN n) := ⟨rfl, rfl, rfl, Nat.le_refl _, fun _ _ => rfl⟩
theorem Calls.quiet_eq {P : Program} {f : FuncId} {args : Array Value} {w : World} {n : Nat} {v : Value}
    (h : Calls P f args (w.drewN n) fun e w' => e = .returned v ∧ w.drewN n = w') : Calls P f args (w.drewN n) fun e w'' => e = .returned v ∧ ∃ m, w'' = w.drewN m :=
  h.mono fun _ _ ⟨he, hm⟩ => ⟨he, n, hm.symm⟩
theorem step_below {w w1 w2 : World} (h : Below w.heap.size w w1) (h' : Below w1.heap.size w1 w2) : Below w.heap.size w w2 := h.trans (h'.mono h.size)

end Go.Proofs.Ytjihemgidogoeaa
