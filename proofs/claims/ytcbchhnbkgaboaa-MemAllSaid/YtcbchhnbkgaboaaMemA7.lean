/- mem's laws: MemAll: a case of its loop. -/
import Derived.Test.YtcbchhnbkgaboaaMemA0
namespace Go.Proofs.Ytcbchhnbkgaboaa
open Go.RowKit
set_option linter.unusedVariables false

theorem take_splice_any {α : Type} (c xs : List α) (o L : Nat) (h : o + xs.length ≤ L) (hL : L ≤ c.length) : (splice c o xs).take L = splice (c.take L) o xs := by
  unfold splice
  rw [List.take_append, List.take_append, List.length_take, Nat.min_eq_left (by omega), List.take_take, Nat.min_eq_right (by omega), List.take_of_length_le (show xs.length ≤ L - o by omega), List.take_take, Nat.min_eq_left (by omega), List.drop_take]
  congr 3
  omega
/-- What a copy into a row of the call's own leaves. -/
theorem Own.copied {E : TypeId} {base : Nat} {w : World} {g n cap : Nat} {xs : List Int} (h : Own E .u8 base w (.slice (some ⟨g, 0, none⟩) n cap) xs) (o : Nat) (ys : List Int) (hy : ∀ y ∈ ys, (Lit.int .u8 y).wf = true) (ho : o + ys.length ≤ n) :
    ∃ cur, Blk w g E cur ∧ o + ys.length ≤ cur.length ∧ ∀ w', Blk w' g E (splice cur o (ys.map (Value.int .u8))) → w.heap.size ≤ w'.heap.size → Own E .u8 base w' (.slice (some ⟨g, 0, none⟩) n cap) (splice xs o ys) := by
  rcases h.row.2 with ⟨h0, _⟩ | ⟨g', cap', cur, hv, hb, hg, hle, hm, hs, ht⟩
  · simp at h0
  · injection hv with e1 e2 e3
    injection e1 with e1
    injection e1 with e1
    subst e1 e2 e3
    have hcl : cur.toList.length = cap := by simpa using hs
    refine ⟨cur.toList, by unfold Blk; simpa using hg, by omega, fun w' hB hz => ?_⟩
    have hls := length_splice xs o ys ho
    refine ⟨⟨by simp, .inr ⟨g, cap, (splice cur.toList o (ys.map (Value.int .u8))).toArray, by rw [hls], hb, hB, by rw [hls]; exact hle, hm, ?_, ?_⟩⟩, fun y h1 => ?_⟩
    · have := length_splice cur.toList o (ys.map (Value.int .u8)) (by rw [List.length_map]; omega)
      rw [List.size_toArray, this, hcl, Nat.mul_one]
    · have ht2 : cur.toList.take xs.length = xs.map (Value.int .u8) := by simpa using ht
      rw [hls, Nat.mul_one, List.toList_toArray, take_splice_any _ _ _ _ (by rw [List.length_map]; exact ho) (by omega), ht2]
      simp only [splice, List.map_append, List.map_take, List.map_drop, List.length_map]
    · rcases splice_mem h1 with h1 | h1
      · exact h.wf y h1
      · exact hy y h1
set_option maxRecDepth 1000000 in
set_option maxHeartbeats 4000000 in
theorem all_page {w wr : World} {b off n cap g gd gl k N cv : Nat} {v0 : Option Addr} {M : MM} {q lo hi kd sz at' nn : Int} {x : Nat} {Q0 : Exit → Act → World → Prop} (U : Nat → Value)
    (i1 : k < n) (i2 : k < 40) (hn : n ≤ cap) (hn2 : cap ≤ 9223372036854775807) (hg : w.heap.size ≤ g) (hgd : w.heap.size ≤ gd) (hgl : w.heap.size ≤ gl) (hbw : b < w.heap.size)
    (HC : Hid (w.cell? ⟨b, off + k * 5, none⟩ = some (.int .i64 kd) ∧ w.cell? ⟨b, off + k * 5 + 1, none⟩ = some (.int .i64 sz) ∧ w.cell? ⟨b, off + k * 5 + 2, none⟩ = some (.int .i64 at') ∧ w.cell? ⟨b, off + k * 5 + 3, none⟩ = some (.int .i64 nn) ∧ w.cell? ⟨b, off + k * 5 + 4, none⟩ = some (.int .u64 (x : Int))))
    (HX64 : Hid (x < 2 ^ 64)) (hat1 : -9223372036854775808 ≤ at') (hat2 : at' ≤ 9223372036854775807)
    (HQ : Hid (M.q = q)) (HA : Hid (MA wr w.heap.size g gd gl M (.slice v0 N cv) lo hi)) (HB : Hid (Below w.heap.size w wr)) (HN : Hid (N = 256 * M.p)) (hN16 : N ≤ 4096) (hcv2 : N ≤ cv) (hcv : cv ≤ 9223372036854775807)
    (hk : Hid (kd = 3)) (hn1 : -9223372036854775808 ≤ nn) (hn3 : nn ≤ 9223372036854775807) (hs1 : -9223372036854775808 ≤ sz) (hs2 : sz ≤ 9223372036854775807) :
    Code.wp Try.prog allBody (Exit.then (fun a' w'' => AI w (some ⟨b, off, none⟩) n cap g gd gl q lo hi a' w'' ∧ Amu a' < 40 - k) Q0) ⟨(U 0 :: (.slice (some ⟨b, off, none⟩) n cap) :: (.pointer (some ⟨gl, 0, none⟩)) :: U 3 :: U 4 :: U 5 :: (.pointer (some ⟨g, 0, none⟩)) :: (.slice v0 N cv) :: (.pointer (some ⟨gd, 0, none⟩)) :: (.int .i64 (k : Int)) :: U 10 :: U 11 :: U 12 :: U 13 :: U 14 :: U 15 :: U 16 :: U 17 :: U 18 :: U 19 :: U 20 :: U 21 :: U 22 :: U 23 :: U 24 :: U 25 :: U 26 :: U 27 :: U 28 :: U 29 :: U 30 :: U 31 :: U 32 :: U 33 :: U 34 :: U 35 :: U 36 :: U 37 :: U 38 :: U 39 :: U 40 :: U 41 :: U 42 :: U 43 :: U 44 :: U 45 :: U 46 :: U 47 :: U 48 :: U 49 :: U 50 :: U 51 :: U 52 :: U 53 :: U 54 :: U 55 :: U 56 :: U 57 :: U 58 :: U 59 :: U 60 :: U 61 :: U 62 :: U 63 :: U 64 :: U 65 :: U 66 :: U 67 :: U 68 :: U 69 :: U 70 :: U 71 :: U 72 :: U 73 :: U 74 :: U 75 :: U 76 :: U 77 :: U 78 :: U 79 :: U 80 :: U 81 :: U 82 :: U 83 :: U 84 :: U 85 :: U 86 :: U 87 :: U 88 :: U 89 :: U 90 :: U 91 :: U 92 :: U 93 :: U 94 :: U 95 :: U 96 :: U 97 :: U 98 :: U 99 :: U 100 :: U 101 :: U 102 :: U 103 :: U 104 :: U 105 :: U 106 :: U 107 :: U 108 :: U 109 :: U 110 :: U 111 :: U 112 :: U 113 :: U 114 :: U 115 :: U 116 :: U 117 :: U 118 :: U 119 :: U 120 :: U 121 :: U 122 :: U 123 :: U 124 :: U 125 :: U 126 :: U 127 :: U 128 :: U 129 :: U 130 :: U 131 :: U 132 :: U 133 :: U 134 :: U 135 :: U 136 :: U 137 :: U 138 :: U 139 :: U 140 :: U 141 :: U 142 :: U 143 :: U 144 :: U 145 :: U 146 :: U 147 :: U 148 :: U 149 :: U 150 :: U 151 :: U 152 :: U 153 :: U 154 :: U 155 :: U 156 :: U 157 :: U 158 :: U 159 :: U 160 :: U 161 :: U 162 :: U 163 :: U 164 :: U 165 :: U 166 :: U 167 :: U 168 :: U 169 :: U 170 :: U 171 :: U 172 :: U 173 :: U 174 :: U 175 :: U 176 :: U 177 :: U 178 :: U 179 :: U 180 :: U 181 :: U 182 :: U 183 :: U 184 :: U 185 :: U 186 :: U 187 :: U 188 :: U 189 :: U 190 :: U 191 :: U 192 :: U 193 :: U 194 :: U 195 :: U 196 :: U 197 :: U 198 :: U 199 :: U 200 :: U 201 :: U 202 :: U 203 :: U 204 :: U 205 :: U 206 :: U 207 :: U 208 :: U 209 :: U 210 :: U 211 :: U 212 :: U 213 :: U 214 :: U 215 :: U 216 :: U 217 :: U 218 :: U 219 :: U 220 :: U 221 :: U 222 :: U 223 :: U 224 :: U 225 :: U 226 :: U 227 :: U 228 :: U 229 :: U 230 :: U 231 :: U 232 :: U 233 :: U 234 :: U 235 :: U 236 :: U 237 :: U 238 :: U 239 :: U 240 :: U 241 :: U 242 :: U 243 :: U 244 :: U 245 :: U 246 :: U 247 :: U 248 :: U 249 :: U 250 :: U 251 :: U 252 :: U 253 :: U 254 :: U 255 :: U 256 :: U 257 :: U 258 :: U 259 :: U 260 :: U 261 :: U 262 :: U 263 :: U 264 :: U 265 :: U 266 :: U 267 :: U 268 :: U 269 :: U 270 :: U 271 :: U 272 :: U 273 :: U 274 :: U 275 :: U 276 :: U 277 :: U 278 :: U 279 :: U 280 :: U 281 :: U 282 :: U 283 :: U 284 :: U 285 :: U 286 :: U 287 :: U 288 :: U 289 :: U 290 :: U 291 :: U 292 :: U 293 :: U 294 :: U 295 :: U 296 :: U 297 :: U 298 :: U 299 :: U 300 :: U 301 :: U 302 :: U 303 :: U 304 :: U 305 :: U 306 :: U 307 :: U 308 :: U 309 :: U 310 :: U 311 :: U 312 :: []).toArray, []⟩ wr := by
  have c0 := (HB.out.cell hbw).trans HC.out.1
  have c1 := (HB.out.cell hbw).trans HC.out.2.1
  have c2 := (HB.out.cell hbw).trans HC.out.2.2.1
  have c3 := (HB.out.cell hbw).trans HC.out.2.2.2.1
  have c4 := (HB.out.cell hbw).trans HC.out.2.2.2.2
  have hk40 : decide ((k : Int) < 40) = true := by simp; omega
  conv => arg 2; whnf
  go_upto_region 15 with (fail)
  have hO := Blk.new wr 32 [.int .i64 kd, .int .i64 sz, .int .i64 at', .int .i64 nn, .int .u64 (x : Int)]
  have hb := Bl.alloc (Bl.refl wr) (.cells #[.int .i64 kd, .int .i64 sz, .int .i64 at', .int .i64 nn, .int .u64 (x : Int)] 32)
  obtain ⟨go, hgo⟩ : ∃ go, go = wr.heap.size := ⟨_, rfl⟩
  have hgow : w.heap.size ≤ go := by have := HB.out.size; omega
  rw [← hgo] at hO ⊢
  clear hgo
  generalize wr.alloc (.cells #[.int .i64 kd, .int .i64 sz, .int .i64 at', .int .i64 nn, .int .u64 (x : Int)] 32) = w1 at hO hb ⊢
  replace HA := hid (HA.out.bl hb)
  replace HB := hid (HB.out.trans (hb.mono HB.out.size))
  have HO := hid hO
  have o0 : w1.cell? ⟨go, 0, none⟩ = some (.int .i64 kd) := HO.out.cell 0
  have o1 : w1.cell? ⟨go, 1, none⟩ = some (.int .i64 sz) := HO.out.cell 1
  have o2 : w1.cell? ⟨go, 2, none⟩ = some (.int .i64 at') := HO.out.cell 2
  have o3 : w1.cell? ⟨go, 3, none⟩ = some (.int .i64 nn) := HO.out.cell 3
  have o4 : w1.cell? ⟨go, 4, none⟩ = some (.int .u64 (x : Int)) := HO.out.cell 4
  clear hO hb c0 c1 c2 c3 c4
  obtain ⟨I, hI⟩ : ∃ I : Bool, I = decide (0 ≤ at' ∧ at' ≤ N ∧ sz ≤ (N : Int) - at') := ⟨_, rfl⟩
  go_cut [11] from 71 (fun v w' => v = .bool I ∧ w1 = w')
  case first =>
    have hin : at' < 0 ∨ (0 ≤ at' ∧ (N : Int) < at') ∨ (0 ≤ at' ∧ at' ≤ N ∧ (N : Int) - at' < sz) ∨ (0 ≤ at' ∧ at' ≤ N ∧ sz ≤ (N : Int) - at') := by omega
    have HI := hid hI
    clear hI
    rcases hin with h | ⟨h, h'⟩ | ⟨h, h', h''⟩ | ⟨h, h', h''⟩
    all_goals
      go_wp2_with fail
      go_meet
      case rel => exact ⟨by congr 1; rw [HI.out, Bool.eq_iff_iff]; simp; omega, rfl⟩
  obtain ⟨rfl, rfl⟩ := hcut
  have HI := hid hI
  clear hI
  have k0 : (kd == 0) = false := by have := hk.out; simp; omega
  have k1 : (kd == 1) = false := by have := hk.out; simp; omega
  have k2 : (kd == 2) = false := by have := hk.out; simp; omega
  have k3 : (kd == 3) = true := by have := hk.out; simp; omega
  have hA := HA.out
  have hlt := hA.b.lt
  have n1 := hA.d.ne_ hA.m.blk (by decide)
  have n2 := hA.d.ne_ hA.l (by decide)
  have HND := hid (And.intro n1 n2)
  have hp16 := hA.m.ok.pl
  have hcl := hA.m.ok.cl
  obtain ⟨p, hp⟩ : ∃ p, M.p = p := ⟨_, rfl⟩
  have hq : (N : Int) / 256 = (p : Int) := by have := HN.out; omega
  rw [hp] at hp16
  have HP := hid hp
  have HCL := hid hcl
  clear hp n1 n2 hA hcl
  go_wp2_with (with_reducible refine wpList_make (o := ⟨some 253, _, _, _, _, none⟩) rfl 28 5 (.const (.int .i64 256)) (.const (.int .i64 256)) rfl 256 (by decide) ?hmk ?_)
  case hmk => exact make256 _
  intro w2 h2
  obtain ⟨gp, hgp⟩ : ∃ gp, gp = w1.heap.size := ⟨_, rfl⟩
  have hO := h2.out.1
  replace HA := hid (HA.out.bl h2.out.2)
  replace HO := hid (HO.out.bl h2.out.2)
  have hgpw : w.heap.size ≤ gp := by have := HB.out.size; omega
  replace HB := hid (HB.out.trans (h2.out.2.mono HB.out.size))
  rw [← hgp] at hO hlt ⊢
  have m1 : gp ≠ g := fun e => hO.ne_blk HA.out.m.blk (by decide) (by rw [e]; rfl)
  have m2 : gp ≠ gd := fun e => hO.ne_blk HA.out.d (by decide) (by rw [e]; rfl)
  have m3 : gp ≠ gl := fun e => hO.ne_blk HA.out.l (by decide) (by rw [e]; rfl)
  have m4 : gp ≠ go := fun e => hO.ne_blk HO.out (by decide) (by rw [e]; rfl)
  have m5 : (Value.slice v0 N cv).ownBlock ≠ some gp := fun e => by have := (hlt gp e).2; omega
  have HM5 := hid (And.intro m1 (And.intro m2 (And.intro m3 (And.intro m4 m5))))
  obtain ⟨nb, hnb⟩ : ∃ nb : Int, nb = nn % 256 := ⟨_, rfl⟩
  have hnb2 : 0 ≤ nb ∧ nb < 256 := by omega
  have HP0 : Hid (Own 5 .u8 gp w2 (.slice (some ⟨gp, 0, none⟩) 256 256) (repK nb 0)) := hid hO
  have hsz2 := HB.out.size
  clear h2 hgp hO hlt m1 m2 m3 m4 m5 o0 o1 o2 o3 o4
  go_wp2_with fail
  go_loopw [256] (fun i wr => ∃ j : Nat, j ≤ 256 ∧ i = .int .i64 j ∧ Own 5 .u8 gp wr (.slice (some ⟨gp, 0, none⟩) 256 256) (repK nb j) ∧ Wr gp w2 wr) (fun i _ => 256 - (intOf i).toNat)
  case atStart => exact ⟨0, Nat.zero_le _, rfl, HP0.out, Wr.refl _ _⟩
  clear HP0
  obtain ⟨j, hj, rfl, hO, hW⟩ := hrel
  have hl := repK_len nb j hj
  have HO2 := hid (HO.out.grown hW (by simpa using Ne.symm HM5.out.2.2.2.1))
  have o0 : wr.cell? ⟨go, 0, none⟩ = some (.int .i64 kd) := HO2.out.cell 0
  have o1 : wr.cell? ⟨go, 1, none⟩ = some (.int .i64 sz) := HO2.out.cell 1
  have o2 : wr.cell? ⟨go, 2, none⟩ = some (.int .i64 at') := HO2.out.cell 2
  have o3 : wr.cell? ⟨go, 3, none⟩ = some (.int .i64 nn) := HO2.out.cell 3
  by_cases hj2 : j < 256
  · have c1 := (hO.cell j (by omega)).1
    have f1 := (hO.cell j (by omega)).2.1
    have h1 := hO.set j nb (WalkArith.wf_u8 (by omega))
    rw [repK_set nb j hj2] at h1
    have HN2 := hid (And.intro h1 (hW.set j (.int .u8 nb)))
    rw [hnb] at HN2
    have HNB := hid hnb
    clear hO hW h1 hl hnb
    go_wp2_with fail
    go_roundw
    case rel => exact ⟨j + 1, by omega, by go_num, by rw [← HNB.out] at HN2 ⊢; exact HN2.out⟩
    case measure => simp [intOf]; omega
  obtain rfl : j = 256 := by omega
  have HAr : Hid (MA wr w.heap.size g gd gl M (.slice v0 N cv) lo hi ∧ Below w.heap.size w wr) :=
    hid ⟨⟨HA.out.m.grown hW (by simpa using Ne.symm HM5.out.1), HA.out.b.wr hW HM5.out.2.2.2.2, HA.out.d.grown hW (by simpa using Ne.symm HM5.out.2.1), HA.out.l.grown hW (by simpa using Ne.symm HM5.out.2.2.1)⟩, HB.out.trans (hW.below hsz2 hgpw)⟩
  obtain ⟨xs, hxs⟩ : ∃ xs, xs = repK nb 256 := ⟨_, rfl⟩
  rw [← hxs] at hO hl
  have HOx := hid hO
  have HLx := hid hl
  have hcut := fun w => run_cutS (P := Try.prog) 28 Try.underlying28 (s := 1) (fun _ => rfl) gp 0 256 256 .i64 255 255 rfl (by omega) (by omega) w
  have hpar := and_one sz
  obtain ⟨r, hr⟩ : ∃ r, sz % 2 = r := ⟨_, rfl⟩
  rw [hr] at hpar
  have hr01 : r = 0 ∨ r = 1 := by omega
  clear hO hW hl hxs hj hj2 HA HB HO hnb hnb2 hr hsz2
  by_cases hfar : at' < -5 ∨ 100 < at'
  · have hf4 : (at' < -5 ∧ r = 0) ∨ (at' < -5 ∧ r = 1) ∨ (100 < at' ∧ r = 0) ∨ (100 < at' ∧ r = 1) := by omega
    clear hfar hr01
    rcases hf4 with ⟨f1, rfl⟩ | ⟨f1, rfl⟩ | ⟨f1, rfl⟩ | ⟨f1, rfl⟩
    · have f2 : at' < 0 := by omega
      go_wp2_with fail
      refine ⟨⟨rfl, rfl, rfl, rfl, rfl, rfl, k + 1, M, by omega, by omega, by show Value.int .i64 ((k : Int) + 1) = _; go_num, HQ.out, HAr.out⟩, ?_⟩
      show 40 - (intOf (Value.int .i64 ((k : Int) + 1))).toNat < 40 - k
      simp [intOf]
      omega
    · have f2 : at' < 0 := by omega
      go_wp2_with fail
      refine ⟨⟨rfl, rfl, rfl, rfl, rfl, rfl, k + 1, M, by omega, by omega, by show Value.int .i64 ((k : Int) + 1) = _; go_num, HQ.out, HAr.out⟩, ?_⟩
      show 40 - (intOf (Value.int .i64 ((k : Int) + 1))).toNat < 40 - k
      simp [intOf]
      omega
    · have f2 : 0 ≤ at' := by omega
      have f3 : (p : Int) ≤ at' := by omega
      go_wp2_with fail
      refine ⟨⟨rfl, rfl, rfl, rfl, rfl, rfl, k + 1, M, by omega, by omega, by show Value.int .i64 ((k : Int) + 1) = _; go_num, HQ.out, HAr.out⟩, ?_⟩
      show 40 - (intOf (Value.int .i64 ((k : Int) + 1))).toNat < 40 - k
      simp [intOf]
      omega
    · have f2 : 0 ≤ at' := by omega
      have f3 : (p : Int) ≤ at' := by omega
      go_wp2_with fail
      refine ⟨⟨rfl, rfl, rfl, rfl, rfl, rfl, k + 1, M, by omega, by omega, by show Value.int .i64 ((k : Int) + 1) = _; go_num, HQ.out, HAr.out⟩, ?_⟩
      show 40 - (intOf (Value.int .i64 ((k : Int) + 1))).toNat < 40 - k
      simp [intOf]
      omega
  have g1 : -5 ≤ at' := by omega
  have g2 : at' ≤ 100 := by omega
  clear hfar
  rcases hr01 with rfl | rfl
  · by_cases hno : at' < 0 ∨ (p : Int) ≤ at'
    · have hsp := setPage_no g M at' (some ⟨gp, 0, none⟩) 256 256 wr HAr.out.1.m (by rw [HP.out]; omega)
      have hw2 : at' < 0 ∨ (0 ≤ at' ∧ (p : Int) ≤ at') := by omega
      clear hno
      rcases hw2 with f2 | ⟨f2, f3⟩
      all_goals
        go_wp2_with fail
        refine hsp.mono ?_
        rintro e w' ⟨rfl, rfl⟩
        clear hsp
        go_wp2_with fail
        refine ⟨⟨rfl, rfl, rfl, rfl, rfl, rfl, k + 1, M, by omega, by omega, by show Value.int .i64 ((k : Int) + 1) = _; go_num, HQ.out, HAr.out⟩, ?_⟩
        show 40 - (intOf (Value.int .i64 ((k : Int) + 1))).toNat < 40 - k
        simp [intOf]
        omega
    · obtain ⟨a, rfl⟩ : ∃ a : Nat, at' = a := ⟨at'.toNat, by omega⟩
      have hap : (a : Int) < p := by omega
      have hNp : N = 256 * p := by rw [← HP.out]; exact HN.out
      have hML : (M.c.take (256 * M.p)).length = N := by have := HP.out; simp [HCL.out]; omega
      obtain ⟨gb, cb, e1, hgb, _, _⟩ := HAr.out.1.b.form (by omega)
      rw [hML] at e1
      obtain ⟨rfl, _, rfl⟩ : v0 = some ⟨gb, 0, none⟩ ∧ True ∧ cv = cb := by injection e1 with x1 x2 x3; exact ⟨x1, trivial, x3⟩
      obtain ⟨T, hT⟩ : ∃ T : Nat, T = 256 * a := ⟨_, rfl⟩
      have hw1 : (256 : Int) * (a : Int) = (T : Int) := by omega
      have hTN : T + 256 ≤ N := by omega
      have hcb := fun w => run_cut_l (P := Try.prog) 28 Try.underlying28 (s := 1) (fun _ => rfl) (some ⟨gb, 0, none⟩) N cv (T : Int) T rfl (by omega) w
      rw [show cutAt (some ⟨gb, 0, none⟩) T cv 1 = some ⟨gb, T, none⟩ by unfold cutAt; rw [if_neg (by omega)]; simp [Addr.add_lit]] at hcb
      have hsp := setPage_to g M a ⟨gp, 0, none⟩ 256 xs wr HAr.out.1.m (by rw [HP.out]; omega) HOx.out.rd_at
      have hA := HAr.out.1
      have hgbd : gb ≠ gd := fun e => hA.b.ne_blk hA.d (by decide) (by rw [e]; rfl)
      have hgbg : gb ≠ g := fun e => hA.b.ne_blk hA.m.blk (by decide) (by rw [e]; rfl)
      have hgbl : gb ≠ gl := fun e => hA.b.ne_blk hA.l (by decide) (by rw [e]; rfl)
      have hgbo : gb ≠ go := fun e => hA.b.ne_blk HO2.out (by decide) (by rw [e]; rfl)
      have hgbp : gb ≠ gp := fun e => HM5.out.2.2.2.2 (by rw [e]; rfl)
      have hxw : ∀ y ∈ xs, (Lit.int .u8 y).wf = true := HOx.out.wf
      have HST : Hid (∀ w3, MemAt w3 g (setPageM M a xs) → Wr g wr w3 → Own 5 .u8 w.heap.size w3 (.slice (some ⟨gb, 0, none⟩) N cv) (M.c.take (256 * M.p)) ∧ MemAt w3 g (setPageM M a xs) ∧ Blk w3 gd 29 (M.d.map Value.bool) ∧ Blk w3 gl 23 [.bool true, .int .i64 lo, .int .i64 hi] ∧ Blk w3 go 32 [.int .i64 kd, .int .i64 sz, .int .i64 (a : Int), .int .i64 nn, .int .u64 (x : Int)] ∧ Below w.heap.size w w3 ∧ Own 5 .u8 gp w3 (.slice (some ⟨gp, 0, none⟩) 256 256) xs) := fun w3 hM hW =>
        ⟨hA.b.wr hW (hA.b.ne_blk hA.m.blk (by decide)), hM, hA.d.grown hW (by simpa using hA.d.ne_ hA.m.blk (by decide)), hA.l.grown hW (by simpa using hA.l.ne_ hA.m.blk (by decide)), HO2.out.grown hW (by simpa using HO2.out.ne_ hA.m.blk (by decide)), HAr.out.2.trans (hW.below HAr.out.2.size hg), HOx.out.wr hW (HOx.out.ne_blk hA.m.blk (by decide))⟩
      have HNE := hid (And.intro hgbd (And.intro hgbg (And.intro hgbl (And.intro hgbo (And.intro hgbp (And.intro hML hT))))))
      have HXW := hid hxw
      clear hA hgbd hgbg hgbl hgbo hgbp hML hT hno e1 hNp hxw HAr HO2 HOx
      go_wp2_with fail
      refine hsp.mono ?_
      rintro e w3 ⟨rfl, hM, hW⟩
      obtain ⟨q1, q2, q3, q4, q5, q6, q7⟩ := HST.out w3 hM hW
      have o2 : w3.cell? ⟨go, 2, none⟩ = some (.int .i64 (a : Int)) := q5.cell 2
      obtain ⟨cur, hcu, hcl, hdone⟩ := q1.copied T xs HXW.out (by rw [HLx.out]; exact hTN)
      have HQ7 := hid (And.intro q1 (And.intro q2 (And.intro q3 (And.intro q4 (And.intro q5 (And.intro q6 q7))))))
      have HCU := hid (And.intro hcu hcl)
      have HDN := hid hdone
      clear hsp hM hW HST q1 q2 q3 q4 q5 q6 q7 hcu hcl hdone
      go_wp2_with (with_reducible refine wpList_copy_blk (o := ⟨some 305, _, _, _, _, none⟩) rfl (.tmp 303) (.tmp 304) 28 28 rfl 5 Try.underlying28 ?z1 gb T (N - T) (cv - T) ⟨gp, 0, none⟩ 256 256 ?z2 ?z3 cur 5 HCU.out.1 (xs.map (Value.int .u8)) ?z4 ?z5 ?z6 ?z7 ?_)
      case z1 => rfl
      case z2 => rfl
      case z3 => rfl
      case z4 => simp only [List.length_map, HLx.out]; show 256 = min 256 (N - T); omega
      case z5 => exact HQ7.out.2.2.2.2.2.2.rd_at.news rfl
      case z6 => have := HCU.out.2; simpa using this
      case z7 => exact ints_oneCell _ _
      intro w4 h4
      have hb4 := HDN.out w4 h4.out.1 h4.out.2.size
      have hq := HQ7.out
      have hW4 := h4.out.2
      have hd4 := hq.2.2.1.grown hW4 (by simpa using Ne.symm HNE.out.1)
      have o2' : w4.cell? ⟨go, 2, none⟩ = some (.int .i64 (a : Int)) := (hq.2.2.2.2.1.grown hW4 (by simpa using Ne.symm HNE.out.2.2.2.1)).cell 2
      have ha16 : a < 16 := by omega
      have hdl : M.d.length = 16 := by have := hq.2.1.ok.dl; simpa [setPageM] using this
      have c1 : w4.cell? ⟨gd, a, none⟩ = some (.bool (M.d.getD a false)) := (hd4.cell a).trans (by simp [List.getD, hdl, ha16])
      have f1 := hd4.frozen a
      have HF : Hid (MA (w4.setCell ⟨gd, a, none⟩ (.bool true)) w.heap.size g gd gl (setPageM M a xs) (.slice (some ⟨gb, 0, none⟩) N cv) lo hi ∧ Below w.heap.size w (w4.setCell ⟨gd, a, none⟩ (.bool true))) := by
        refine hid ⟨⟨(hq.2.1.grown hW4 (by simpa using Ne.symm HNE.out.2.1)).far (p := ⟨gd, a, none⟩) (Ne.symm HND.out.1) _, ?_, ?_, (hq.2.2.2.1.grown hW4 (by simpa using Ne.symm HNE.out.2.2.1)).far (p := ⟨gd, a, none⟩) (Ne.symm HND.out.2) _⟩, (hq.2.2.2.2.2.1.trans (hW4.below hq.2.2.2.2.2.1.size hgb)).setCell (p := ⟨gd, a, none⟩) hgd _⟩
        · have e : (setPageM M a xs).c.take (256 * (setPageM M a xs).p) = splice (M.c.take (256 * M.p)) T xs := by
            rw [HNE.out.2.2.2.2.2.2]
            exact take_splice _ _ _ _ (by rw [HLx.out]; show _ ≤ 256 * M.p; rw [HP.out]; omega) (by show 256 * M.p ≤ _; rw [HCL.out, HP.out]; omega)
          rw [e]
          exact hb4.aside (p := ⟨gd, a, none⟩) (fun b hb e => HNE.out.1 (by simp [Value.ownBlock] at hb; rw [hb]; exact e)) _
        · have := hd4.set a (.bool true)
          rw [← List.map_set] at this
          exact this
      clear h4 hb4 hq hW4 hd4 o2 HQ7 HCU HDN hdl
      go_wp2_with fail
      refine ⟨⟨rfl, rfl, rfl, rfl, rfl, rfl, k + 1, setPageM M a xs, by omega, by omega, by show Value.int .i64 ((k : Int) + 1) = _; go_num, HQ.out, HF.out⟩, ?_⟩
      show 40 - (intOf (Value.int .i64 ((k : Int) + 1))).toNat < 40 - k
      simp [intOf]
      omega
  · have hsp := setPage_no g M at' (some ⟨gp, 0, none⟩) 255 256 wr HAr.out.1.m (by omega)
    have hw2 : at' < 0 ∨ (0 ≤ at' ∧ (p : Int) ≤ at') ∨ (0 ≤ at' ∧ at' < (p : Int)) := by omega
    rcases hw2 with f2 | ⟨f2, f3⟩ | ⟨f2, f3⟩
    all_goals
      go_wp2_with fail
      refine hsp.mono ?_
      rintro e w' ⟨rfl, rfl⟩
      clear hsp
      go_wp2_with fail
      refine ⟨⟨rfl, rfl, rfl, rfl, rfl, rfl, k + 1, M, by omega, by omega, by show Value.int .i64 ((k : Int) + 1) = _; go_num, HQ.out, HAr.out⟩, ?_⟩
      show 40 - (intOf (Value.int .i64 ((k : Int) + 1))).toNat < 40 - k
      simp [intOf]
      omega
end Go.Proofs.Ytcbchhnbkgaboaa
