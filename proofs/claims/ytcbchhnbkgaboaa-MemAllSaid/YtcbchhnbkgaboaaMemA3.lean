/- mem's laws: MemAll: a case of its loop. -/
import Derived.Test.YtcbchhnbkgaboaaMemA0
namespace Go.Proofs.Ytcbchhnbkgaboaa
open Go.RowKit
set_option linter.unusedVariables false
set_option maxRecDepth 1000000 in
set_option maxHeartbeats 4000000 in
theorem all_grow_no {w wr : World} {b off n cap g gd gl k N cv : Nat} {v0 : Option Addr} {M : MM} {q lo hi kd sz at' nn : Int} {x : Nat} {Q0 : Exit → Act → World → Prop} (U : Nat → Value)
    (i1 : k < n) (i2 : k < 40) (hn : n ≤ cap) (hn2 : cap ≤ 9223372036854775807) (hg : w.heap.size ≤ g) (hgd : w.heap.size ≤ gd) (hgl : w.heap.size ≤ gl) (hbw : b < w.heap.size)
    (HC : Hid (w.cell? ⟨b, off + k * 5, none⟩ = some (.int .i64 kd) ∧ w.cell? ⟨b, off + k * 5 + 1, none⟩ = some (.int .i64 sz) ∧ w.cell? ⟨b, off + k * 5 + 2, none⟩ = some (.int .i64 at') ∧ w.cell? ⟨b, off + k * 5 + 3, none⟩ = some (.int .i64 nn) ∧ w.cell? ⟨b, off + k * 5 + 4, none⟩ = some (.int .u64 (x : Int))))
    (HX64 : Hid (x < 2 ^ 64)) (hat1 : -9223372036854775808 ≤ at') (hat2 : at' ≤ 9223372036854775807)
    (HQ : Hid (M.q = q)) (HA : Hid (MA wr w.heap.size g gd gl M (.slice v0 N cv) lo hi)) (HB : Hid (Below w.heap.size w wr)) (HN : Hid (N = 256 * M.p)) (hN16 : N ≤ 4096) (hcv2 : N ≤ cv) (hcv : cv ≤ 9223372036854775807)
    (hk : Hid (kd = 0)) (hh : -1 ≤ hi) (hh2 : hi ≤ 1073741824) (hq0 : Hid (q = if hi = -1 then 16 else min hi 16)) (hmay : mayM M nn = false) (hn1 : -9223372036854775808 ≤ nn) (hn3 : nn ≤ 9223372036854775807) :
    Code.wp Try.prog allBody (Exit.then (fun a' w'' => AI w (some ⟨b, off, none⟩) n cap g gd gl q lo hi a' w'' ∧ Amu a' < 40 - k) Q0) ⟨(U 0 :: (.slice (some ⟨b, off, none⟩) n cap) :: (.pointer (some ⟨gl, 0, none⟩)) :: U 3 :: U 4 :: U 5 :: (.pointer (some ⟨g, 0, none⟩)) :: (.slice v0 N cv) :: (.pointer (some ⟨gd, 0, none⟩)) :: (.int .i64 (k : Int)) :: U 10 :: U 11 :: U 12 :: U 13 :: U 14 :: U 15 :: U 16 :: U 17 :: U 18 :: U 19 :: U 20 :: U 21 :: U 22 :: U 23 :: U 24 :: U 25 :: U 26 :: U 27 :: U 28 :: U 29 :: U 30 :: U 31 :: U 32 :: U 33 :: U 34 :: U 35 :: U 36 :: U 37 :: U 38 :: U 39 :: U 40 :: U 41 :: U 42 :: U 43 :: U 44 :: U 45 :: U 46 :: U 47 :: U 48 :: U 49 :: U 50 :: U 51 :: U 52 :: U 53 :: U 54 :: U 55 :: U 56 :: U 57 :: U 58 :: U 59 :: U 60 :: U 61 :: U 62 :: U 63 :: U 64 :: U 65 :: U 66 :: U 67 :: U 68 :: U 69 :: U 70 :: U 71 :: U 72 :: U 73 :: U 74 :: U 75 :: U 76 :: U 77 :: U 78 :: U 79 :: U 80 :: U 81 :: U 82 :: U 83 :: U 84 :: U 85 :: U 86 :: U 87 :: U 88 :: U 89 :: U 90 :: U 91 :: U 92 :: U 93 :: U 94 :: U 95 :: U 96 :: U 97 :: U 98 :: U 99 :: U 100 :: U 101 :: U 102 :: U 103 :: U 104 :: U 105 :: U 106 :: U 107 :: U 108 :: U 109 :: U 110 :: U 111 :: U 112 :: U 113 :: U 114 :: U 115 :: U 116 :: U 117 :: U 118 :: U 119 :: U 120 :: U 121 :: U 122 :: U 123 :: U 124 :: U 125 :: U 126 :: U 127 :: U 128 :: U 129 :: U 130 :: U 131 :: U 132 :: U 133 :: U 134 :: U 135 :: U 136 :: U 137 :: U 138 :: U 139 :: U 140 :: U 141 :: U 142 :: U 143 :: U 144 :: U 145 :: U 146 :: U 147 :: U 148 :: U 149 :: U 150 :: U 151 :: U 152 :: U 153 :: U 154 :: U 155 :: U 156 :: U 157 :: U 158 :: U 159 :: U 160 :: U 161 :: U 162 :: U 163 :: U 164 :: U 165 :: U 166 :: U 167 :: U 168 :: U 169 :: U 170 :: U 171 :: U 172 :: U 173 :: U 174 :: U 175 :: U 176 :: U 177 :: U 178 :: U 179 :: U 180 :: U 181 :: U 182 :: U 183 :: U 184 :: U 185 :: U 186 :: U 187 :: U 188 :: U 189 :: U 190 :: U 191 :: U 192 :: U 193 :: U 194 :: U 195 :: U 196 :: U 197 :: U 198 :: U 199 :: U 200 :: U 201 :: U 202 :: U 203 :: U 204 :: U 205 :: U 206 :: U 207 :: U 208 :: U 209 :: U 210 :: U 211 :: U 212 :: U 213 :: U 214 :: U 215 :: U 216 :: U 217 :: U 218 :: U 219 :: U 220 :: U 221 :: U 222 :: U 223 :: U 224 :: U 225 :: U 226 :: U 227 :: U 228 :: U 229 :: U 230 :: U 231 :: U 232 :: U 233 :: U 234 :: U 235 :: U 236 :: U 237 :: U 238 :: U 239 :: U 240 :: U 241 :: U 242 :: U 243 :: U 244 :: U 245 :: U 246 :: U 247 :: U 248 :: U 249 :: U 250 :: U 251 :: U 252 :: U 253 :: U 254 :: U 255 :: U 256 :: U 257 :: U 258 :: U 259 :: U 260 :: U 261 :: U 262 :: U 263 :: U 264 :: U 265 :: U 266 :: U 267 :: U 268 :: U 269 :: U 270 :: U 271 :: U 272 :: U 273 :: U 274 :: U 275 :: U 276 :: U 277 :: U 278 :: U 279 :: U 280 :: U 281 :: U 282 :: U 283 :: U 284 :: U 285 :: U 286 :: U 287 :: U 288 :: U 289 :: U 290 :: U 291 :: U 292 :: U 293 :: U 294 :: U 295 :: U 296 :: U 297 :: U 298 :: U 299 :: U 300 :: U 301 :: U 302 :: U 303 :: U 304 :: U 305 :: U 306 :: U 307 :: U 308 :: U 309 :: U 310 :: U 311 :: U 312 :: []).toArray, []⟩ wr := by
  have c0 := (HB.out.cell hbw).trans HC.out.1
  have c1 := (HB.out.cell hbw).trans HC.out.2.1
  have c2 := (HB.out.cell hbw).trans HC.out.2.2.1
  have c3 := (HB.out.cell hbw).trans HC.out.2.2.2.1
  have c4 := (HB.out.cell hbw).trans HC.out.2.2.2.2
  have hk40 : decide ((k : Int) < 40) = true := by simp; omega
  conv => arg 2; whnf
  go_upto_region 15 with (fail)
  have hO := Blk.new wr 32 [.int .i64 kd, .int .i64 sz, .int .i64 at', .int .i64 nn, .int .u64 (x : Int)]
  have hb := Bl.alloc (Bl.refl wr) (.cells #[.int .i64 kd, .int .i64 sz, .int .i64 at', .int .i64 nn, .int .u64 (x : Int)] 32)
  obtain ⟨go, hgo⟩ : ∃ go, go = wr.heap.size := ⟨_, rfl⟩
  have hgow : w.heap.size ≤ go := by have := HB.out.size; omega
  rw [← hgo] at hO ⊢
  clear hgo
  generalize wr.alloc (.cells #[.int .i64 kd, .int .i64 sz, .int .i64 at', .int .i64 nn, .int .u64 (x : Int)] 32) = w1 at hO hb ⊢
  replace HA := hid (HA.out.bl hb)
  replace HB := hid (HB.out.trans (hb.mono HB.out.size))
  have HO := hid hO
  have o0 : w1.cell? ⟨go, 0, none⟩ = some (.int .i64 kd) := HO.out.cell 0
  have o1 : w1.cell? ⟨go, 1, none⟩ = some (.int .i64 sz) := HO.out.cell 1
  have o2 : w1.cell? ⟨go, 2, none⟩ = some (.int .i64 at') := HO.out.cell 2
  have o3 : w1.cell? ⟨go, 3, none⟩ = some (.int .i64 nn) := HO.out.cell 3
  have o4 : w1.cell? ⟨go, 4, none⟩ = some (.int .u64 (x : Int)) := HO.out.cell 4
  clear hO hb c0 c1 c2 c3 c4
  obtain ⟨I, hI⟩ : ∃ I : Bool, I = decide (0 ≤ at' ∧ at' ≤ N ∧ sz ≤ (N : Int) - at') := ⟨_, rfl⟩
  go_cut [11] from 71 (fun v w' => v = .bool I ∧ w1 = w')
  case first =>
    have hin : at' < 0 ∨ (0 ≤ at' ∧ (N : Int) < at') ∨ (0 ≤ at' ∧ at' ≤ N ∧ (N : Int) - at' < sz) ∨ (0 ≤ at' ∧ at' ≤ N ∧ sz ≤ (N : Int) - at') := by omega
    have HI := hid hI
    clear hI
    rcases hin with h | ⟨h, h'⟩ | ⟨h, h', h''⟩ | ⟨h, h', h''⟩
    all_goals
      go_wp2_with fail
      go_meet
      case rel => exact ⟨by congr 1; rw [HI.out, Bool.eq_iff_iff]; simp; omega, rfl⟩
  obtain ⟨rfl, rfl⟩ := hcut
  have HI := hid hI
  clear hI
  have k0 : (kd == 0) = true := by have := hk.out; simp; omega
  have l2 : w1.cell? ⟨gl, 2, none⟩ = some (.int .i64 hi) := HA.out.l.cell 2
  have hp16 := HA.out.m.ok.pl
  obtain ⟨p, hp⟩ : ∃ p, M.p = p := ⟨_, rfl⟩
  have hq : (N : Int) / 256 = (p : Int) := by have := HN.out; omega
  rw [hp] at hp16
  have hm := hmay
  rw [may_eq M hi nn (by rw [HQ.out, hq0.out]) hh, hp] at hm
  have hway : nn < 0 ∨ (0 ≤ nn ∧ 16 - (p : Int) < nn) ∨ (0 ≤ nn ∧ nn ≤ 16 - (p : Int) ∧ ¬ hi = -1 ∧ hi - (p : Int) < nn) := by
    simp only [Bool.and_eq_false_iff, Bool.or_eq_false_iff, decide_eq_false_iff_not] at hm
    omega
  have hgr := grow_no g M nn w1 HA.out.m hmay
  have HP := hid hp
  have HOK := hid HA.out.m.ok
  clear hmay hm hp
  rcases hway with g1 | ⟨g1, g2⟩ | ⟨g1, g2, g3, g4⟩
  rotate_left 2
  · have hie : (hi == -1) = false := by simpa using g3
    clear g3
    go_wp2_with fail
    refine hgr.mono ?_
    rintro e w2 ⟨rfl, hb⟩
    have HF : Hid (MA w2 w.heap.size g gd gl M (.slice v0 N cv) lo hi ∧ Below w.heap.size w w2) := hid ⟨HA.out.bl hb, HB.out.trans (hb.mono HB.out.size)⟩
    clear hgr hb o0 o1 o2 o3 o4 l2 HA HB HO
    go_wp2_with fail
    go_loopw [7, 15] (fun v i wr => v = .slice v0 N cv ∧ i = .int .i64 0 ∧ w2 = wr) (fun _ _ _ => 0)
    case atStart => exact ⟨rfl, rfl, rfl⟩
    obtain ⟨rfl, rfl, rfl⟩ := hrel
    go_wp2_with fail
    refine ⟨⟨rfl, rfl, rfl, rfl, rfl, rfl, k + 1, M, by omega, by omega, by show Value.int .i64 ((k : Int) + 1) = _; go_num, HQ.out, HF.out⟩, ?_⟩
    show 40 - (intOf (Value.int .i64 ((k : Int) + 1))).toNat < 40 - k
    simp [intOf]
    omega
  all_goals
    go_wp2_with fail
    refine hgr.mono ?_
    rintro e w2 ⟨rfl, hb⟩
    have HF : Hid (MA w2 w.heap.size g gd gl M (.slice v0 N cv) lo hi ∧ Below w.heap.size w w2) := hid ⟨HA.out.bl hb, HB.out.trans (hb.mono HB.out.size)⟩
    clear hgr hb o0 o1 o2 o3 o4 l2 HA HB HO
    go_wp2_with fail
    go_loopw [7, 15] (fun v i wr => v = .slice v0 N cv ∧ i = .int .i64 0 ∧ w2 = wr) (fun _ _ _ => 0)
    case atStart => exact ⟨rfl, rfl, rfl⟩
    obtain ⟨rfl, rfl, rfl⟩ := hrel
    go_wp2_with fail
    refine ⟨⟨rfl, rfl, rfl, rfl, rfl, rfl, k + 1, M, by omega, by omega, by show Value.int .i64 ((k : Int) + 1) = _; go_num, HQ.out, HF.out⟩, ?_⟩
    show 40 - (intOf (Value.int .i64 ((k : Int) + 1))).toNat < 40 - k
    simp [intOf]
    omega
end Go.Proofs.Ytcbchhnbkgaboaa
