/- space's laws: SpaceAll: a value of its kind. -/
import Derived.Test.YthknmoaffapkhaaSpA0
import Derived.Deep.CutBlock
namespace Go.Proofs.Ythknmoaffapkhaa
open Go.RowKit Go.Maps
set_option linter.unusedVariables false
set_option maxRecDepth 1000000 in
set_option maxHeartbeats 4000000 in
theorem all_set {w wr : World} {b off on ocap k n B ge m vcap nb : Nat} {vo : Option Addr} {S : Spc} {T : List Int} {V : List (Int × Int)} {o : OpM} {at' : Int} {Q0 : Exit → Act → World → Prop} (U : Nat → Value)
    (i1 : k < on) (i2 : k < 30) (hon : on ≤ ocap) (ho63 : ocap ≤ 9223372036854775807) (hn16 : n ≤ 16) (hm16 : m ≤ 16) (hmc : m ≤ vcap) (hvc : vcap ≤ 9223372036854775807) (hbw : b < w.heap.size)
    (HC : Hid (∀ j u, o.cells[j]? = some u → w.cell? ⟨b, off + k * 5 + j, none⟩ = some u)) (HO : Hid (o.ok w)) (HA : Hid (MA wr w.heap.size B ge n S nb T V (.slice vo m vcap))) (HB : Hid (Below w.heap.size w wr)) (hnb : nb ≤ 16 * k) (HVm : Hid (V.length = m))
    (hk : o.kd ≠ 0) (hN0 : 0 ≤ o.n) (hN : o.n < (m : Int)) (hno : okv o.vk o.vn = true) (hkind : (V.getD o.n.toNat (0, 0)).1 = o.vk) :
    Code.wp Try.prog allBody (Exit.then (fun a' w'' => AI w (some ⟨b, off, none⟩) on ocap n B ge m vcap vo S at' a' w'' ∧ Amu a' < 30 - k) Q0) ⟨((.int .i64 (n : Int)) :: U 1 :: (.slice (some ⟨b, off, none⟩) on ocap) :: (.int .i64 at') :: U 4 :: U 5 :: U 6 :: U 7 :: U 8 :: U 9 :: U 10 :: (.slice vo m vcap) :: U 12 :: (.slice (some ⟨ge, 0, none⟩) n n) :: U 14 :: (spv S) :: (.int .i64 (k : Int)) :: U 17 :: U 18 :: U 19 :: U 20 :: U 21 :: U 22 :: U 23 :: U 24 :: U 25 :: U 26 :: U 27 :: U 28 :: U 29 :: U 30 :: U 31 :: U 32 :: U 33 :: U 34 :: U 35 :: U 36 :: U 37 :: U 38 :: U 39 :: U 40 :: U 41 :: U 42 :: U 43 :: U 44 :: U 45 :: U 46 :: U 47 :: U 48 :: U 49 :: U 50 :: U 51 :: U 52 :: U 53 :: U 54 :: U 55 :: U 56 :: U 57 :: U 58 :: U 59 :: U 60 :: U 61 :: U 62 :: U 63 :: U 64 :: U 65 :: U 66 :: U 67 :: U 68 :: U 69 :: U 70 :: U 71 :: U 72 :: U 73 :: U 74 :: U 75 :: U 76 :: U 77 :: U 78 :: U 79 :: U 80 :: U 81 :: U 82 :: U 83 :: U 84 :: U 85 :: U 86 :: U 87 :: U 88 :: U 89 :: U 90 :: U 91 :: U 92 :: U 93 :: U 94 :: U 95 :: U 96 :: U 97 :: U 98 :: U 99 :: U 100 :: U 101 :: U 102 :: U 103 :: U 104 :: U 105 :: U 106 :: U 107 :: U 108 :: U 109 :: U 110 :: U 111 :: U 112 :: U 113 :: U 114 :: U 115 :: U 116 :: U 117 :: U 118 :: U 119 :: U 120 :: U 121 :: U 122 :: U 123 :: U 124 :: U 125 :: U 126 :: U 127 :: U 128 :: U 129 :: U 130 :: U 131 :: U 132 :: U 133 :: U 134 :: U 135 :: U 136 :: U 137 :: U 138 :: U 139 :: U 140 :: U 141 :: U 142 :: U 143 :: U 144 :: U 145 :: U 146 :: U 147 :: U 148 :: U 149 :: U 150 :: U 151 :: U 152 :: U 153 :: U 154 :: U 155 :: U 156 :: U 157 :: U 158 :: U 159 :: U 160 :: U 161 :: U 162 :: U 163 :: U 164 :: U 165 :: U 166 :: U 167 :: U 168 :: U 169 :: U 170 :: U 171 :: U 172 :: U 173 :: U 174 :: U 175 :: U 176 :: U 177 :: U 178 :: U 179 :: U 180 :: U 181 :: U 182 :: U 183 :: U 184 :: U 185 :: U 186 :: U 187 :: U 188 :: U 189 :: U 190 :: U 191 :: U 192 :: U 193 :: U 194 :: U 195 :: U 196 :: U 197 :: U 198 :: U 199 :: U 200 :: U 201 :: U 202 :: U 203 :: U 204 :: U 205 :: U 206 :: U 207 :: U 208 :: U 209 :: U 210 :: U 211 :: U 212 :: U 213 :: U 214 :: U 215 :: U 216 :: U 217 :: U 218 :: U 219 :: U 220 :: U 221 :: U 222 :: U 223 :: U 224 :: U 225 :: U 226 :: U 227 :: U 228 :: U 229 :: U 230 :: U 231 :: U 232 :: U 233 :: U 234 :: U 235 :: U 236 :: U 237 :: U 238 :: U 239 :: U 240 :: U 241 :: U 242 :: U 243 :: U 244 :: U 245 :: U 246 :: U 247 :: U 248 :: U 249 :: U 250 :: U 251 :: U 252 :: U 253 :: U 254 :: U 255 :: U 256 :: U 257 :: U 258 :: U 259 :: U 260 :: U 261 :: U 262 :: U 263 :: U 264 :: U 265 :: U 266 :: U 267 :: U 268 :: U 269 :: U 270 :: U 271 :: U 272 :: U 273 :: U 274 :: U 275 :: U 276 :: U 277 :: U 278 :: U 279 :: U 280 :: U 281 :: U 282 :: U 283 :: U 284 :: U 285 :: U 286 :: U 287 :: U 288 :: U 289 :: U 290 :: U 291 :: U 292 :: U 293 :: U 294 :: U 295 :: U 296 :: U 297 :: U 298 :: U 299 :: U 300 :: U 301 :: U 302 :: U 303 :: U 304 :: U 305 :: U 306 :: U 307 :: U 308 :: U 309 :: U 310 :: U 311 :: U 312 :: U 313 :: U 314 :: U 315 :: U 316 :: U 317 :: U 318 :: U 319 :: U 320 :: U 321 :: U 322 :: U 323 :: U 324 :: U 325 :: U 326 :: U 327 :: U 328 :: U 329 :: U 330 :: U 331 :: U 332 :: U 333 :: U 334 :: U 335 :: U 336 :: U 337 :: U 338 :: U 339 :: U 340 :: U 341 :: U 342 :: U 343 :: U 344 :: U 345 :: U 346 :: U 347 :: U 348 :: U 349 :: U 350 :: U 351 :: U 352 :: U 353 :: U 354 :: []).toArray, []⟩ wr := by
  obtain ⟨kd, nn, fo, fl, fc, fs, vk, vn⟩ := o
  have c0 := (HB.out.cell hbw).trans (HC.out 0 _ rfl)
  have c1 := (HB.out.cell hbw).trans (HC.out 1 _ rfl)
  have c2 := (HB.out.cell hbw).trans (HC.out 2 _ rfl)
  have c3 := (HB.out.cell hbw).trans (HC.out 3 _ rfl)
  have c4 := (HB.out.cell hbw).trans (HC.out 4 _ rfl)
  rw [Nat.add_zero] at c0
  have hn1 := bounds_i64 HO.out.n1
  have hfl := HO.out.fs.le
  have hfc := HO.out.fs.cap63
  simp only at c0 c1 c2 c3 c4 hk hn1 hfl hfc
  have hk30 : decide ((k : Int) < 30) = true := by simp; omega
  conv => arg 2; whnf
  go_upto_region 25 with (fail)
  obtain ⟨go, hgo⟩ : ∃ go, go = wr.heap.size := ⟨_, rfl⟩
  have hO := Blk.new wr 45 [.int .i64 kd, .int .i64 nn, .slice fo fl fc, .int .i64 vk, .int .i64 vn]
  have hb := Bl.alloc (Bl.refl wr) (.cells #[.int .i64 kd, .int .i64 nn, .slice fo fl fc, .int .i64 vk, .int .i64 vn] 45)
  have hgoB : B ≤ go := by rw [hgo]; exact HA.out.hBw
  rw [← hgo] at hO ⊢
  clear hgo
  generalize wr.alloc (.cells #[.int .i64 kd, .int .i64 nn, .slice fo fl fc, .int .i64 vk, .int .i64 vn] 45) = w1 at hO hb ⊢
  replace HA := hid (HA.out.bl hb)
  replace HB := hid (HB.out.trans (hb.mono HB.out.size))
  have HGO := hid hO
  have o0 : w1.cell? ⟨go, 0, none⟩ = some (.int .i64 kd) := HGO.out.cell 0
  have o1 : w1.cell? ⟨go, 1, none⟩ = some (.int .i64 nn) := HGO.out.cell 1
  have o2 : w1.cell? ⟨go, 2, none⟩ = some (.slice fo fl fc) := HGO.out.cell 2
  have o3 : w1.cell? ⟨go, 3, none⟩ = some (.int .i64 vk) := HGO.out.cell 3
  have o4 : w1.cell? ⟨go, 4, none⟩ = some (.int .i64 vn) := HGO.out.cell 4
  have hgow := HGO.out.lt
  clear hO hb c0 c1 c2 c3 c4
  simp only at hN0 hN
  obtain ⟨j, rfl⟩ : ∃ j : Nat, nn = j := ⟨nn.toNat, by omega⟩
  have hj : j < m := by omega
  obtain ⟨ao, cap', ev, _, _, hv3⟩ := HA.out.va.shape
  simp only [List.length_map, HVm.out] at ev hv3
  obtain ⟨gv, rfl⟩ := hv3 (by omega)
  injection ev with ev1 _ ev3
  subst ev1 ev3
  obtain ⟨x, hx⟩ : ∃ x, V.getD j (0, 0) = x := ⟨_, rfl⟩
  have hjV : j < V.length := by rw [HVm.out]; exact hj
  have v0 := HA.out.va.cell j 0 (u := .int .i64 x.1) (by simpa using hjV) (by rw [vc_get V j hjV, hx]; rfl)
  have v1 := HA.out.va.cell j 1 (u := .int .i64 x.2) (by simpa using hjV) (by rw [vc_get V j hjV, hx]; rfl)
  have a0 : w1.cell? ⟨gv, j * 2, none⟩ = some (.int .i64 x.1) := v0.1
  have a1 := v1.1
  have hgvw : gv < w1.heap.size := v0.2.2.1
  have hm63 : m ≤ 9223372036854775807 := by omega
  have k0 : (kd == 0) = false := by simp [hk]
  have e1 : decide ((0 : Int) ≤ (j : Int)) = true := by simp
  have e2 : decide ((j : Int) < (m : Int)) = true := by simp; omega
  clear v0 v1 hN0 hN hk hv3
  simp only [Int.toNat_natCast, hx] at hno hkind
  have HMAY := fun w => refMay_any vk vn w
  rw [hno] at HMAY
  rw [hkind] at a0
  have e3 : (vk == vk) = true := by simp
  go_upto_region 36 with (fail)
  refine wp_region_quiet_below (by kernel_rfl) (by kernel_rfl) ?_
  have hbc := fun x => @Bw.cell w1 x
  repeat (go_big_quiet_step ((go_at_call 7; exact Calls.bw (HMAY _))))
  refine wpQuiet_nil ?_
  rintro _ ⟨xw, rfl⟩
  have hb2 := xw.h
  generalize xw.w = w2 at hb2 ⊢
  clear hbc
  go_upto_region 37 with (fail)
  have HM2 := hid (And.intro (HA.out.bl hb2) (HB.out.trans (hb2.mono HB.out.size)))
  have p0 := (hb2.cell (p := ⟨go, 0, none⟩) hgow).trans o0
  have p1 := (hb2.cell (p := ⟨go, 1, none⟩) hgow).trans o1
  have p3 := (hb2.cell (p := ⟨go, 3, none⟩) hgow).trans o3
  have p4 := (hb2.cell (p := ⟨go, 4, none⟩) hgow).trans o4
  have hgo2 := Nat.lt_of_lt_of_le hgow hb2.size
  have HG2 := hid (HGO.out.bl hb2)
  clear o0 o1 o2 o3 o4 a0 a1 hb2
  go_wp2_with fail
  refine (HMAY w2).mono ?_
  rintro e w3 ⟨rfl, hb3⟩
  have HM3 := hid (And.intro (HM2.out.1.bl hb3) (HM2.out.2.trans (hb3.mono HM2.out.2.size)))
  have r0 := (hb3.cell (p := ⟨go, 0, none⟩) hgo2).trans p0
  have r1 := (hb3.cell (p := ⟨go, 1, none⟩) hgo2).trans p1
  have r3 := (hb3.cell (p := ⟨go, 3, none⟩) hgo2).trans p3
  have r4 := (hb3.cell (p := ⟨go, 4, none⟩) hgo2).trans p4
  have hgo3 := Nat.lt_of_lt_of_le hgo2 hb3.size
  have HG3 := hid (HG2.out.bl hb3)
  clear hb3 HM2 p0 p1 p3 p4
  go_wp2_with fail
  refine (setGlobal_to HM3.out.1.s j vk vn hjV (by rw [hx]; exact hkind)).mono ?_
  rintro e w4 ⟨rfl, hS, g, hg, hW⟩
  have hgB := (HM3.out.1.s.gl.lt g hg).1
  have hb4 := hW.below (B := B) HM3.out.1.hBw hgB
  obtain ⟨hP, hgv0⟩ := HM3.out.1.put (x := (vk, vn)) hjV hS hb4
  have hgog : g ≠ go := fun e => HM3.out.1.s.gl.ne_blk HG3.out (by decide) (by rw [hg, e])
  have hG4 := HG3.out.grown hW (by simpa using Ne.symm hgog)
  obtain ⟨_, hv4, _⟩ := HM3.out.1.turn hS hb4
  have u0 := hv4.cell j 0 (u := .int .i64 x.1) (by simpa using hjV) (by rw [vc_get V j hjV, hx]; rfl)
  have u1 := hv4.cell j 1 (u := .int .i64 x.2) (by simpa using hjV) (by rw [vc_get V j hjV, hx]; rfl)
  have q1 : w4.cell? ⟨go, 1, none⟩ = some (.int .i64 (j : Int)) := hG4.cell 1
  have q3 : w4.cell? ⟨go, 3, none⟩ = some (.int .i64 vk) := hG4.cell 3
  have q4 : w4.cell? ⟨go, 4, none⟩ = some (.int .i64 vn) := hG4.cell 4
  have s0 : w4.cell? ⟨gv, j * 2, none⟩ = some (.int .i64 x.1) := u0.1
  have s1 := u1.1
  have f0 : w4.frozen? ⟨gv, j * 2, none⟩ = false := u0.2.1
  have f1 := u1.2.1
  have hgv4 : gv < w4.heap.size := u0.2.2.1
  have hgo4 := hG4.lt
  have HB4 := HM3.out.2.trans (hb4.mono HM3.out.1.hB)
  have H := hid (And.intro hP (Below.setCell (Below.setCell HB4 (p := ⟨gv, j * 2, none⟩) hgv0 (.int .i64 vk)) (p := ⟨gv, j * 2 + 1, none⟩) hgv0 (.int .i64 vn)))
  have HVm2 : Hid ((V.set j (vk, vn)).length = m) := hid (by rw [List.length_set]; exact HVm.out)
  clear hS hg hW hgB hb4 hP hgog hG4 hv4 u0 u1 HM3 r0 r1 r3 r4 HB4 hgo2 hgo3
  go_wp2_with fail
  refine ⟨⟨rfl, rfl, rfl, rfl, rfl, rfl, rfl, rfl, k + 1, nb, T, V.set j (vk, vn), by omega, by omega, by omega, HVm2.out, by show Value.int .i64 ((k : Int) + 1) = _; go_num, H.out⟩, ?_⟩
  show 30 - (intOf (Value.int .i64 ((k : Int) + 1))).toNat < 30 - k
  simp [intOf]
  omega
end Go.Proofs.Ythknmoaffapkhaa
