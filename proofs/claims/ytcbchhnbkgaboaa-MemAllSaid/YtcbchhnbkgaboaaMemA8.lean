/- mem's laws: MemAll. -/
import Derived.Test.YtcbchhnbkgaboaaMemA1
import Derived.Test.YtcbchhnbkgaboaaMemA2
import Derived.Test.YtcbchhnbkgaboaaMemA3
import Derived.Test.YtcbchhnbkgaboaaMemA4
import Derived.Test.YtcbchhnbkgaboaaMemA5
import Derived.Test.YtcbchhnbkgaboaaMemA6
import Derived.Test.YtcbchhnbkgaboaaMemA7
namespace Go.Proofs.Ytcbchhnbkgaboaa
open Go.RowKit
set_option linter.unusedVariables false

/-- Where the loop is left. -/
def AX (w : World) (g gd gl : Nat) (lo hi : Int) (a : Act) (w' : World) : Prop :=
  a.defers = [] ∧ a.tmps.size = 313 ∧ a.tmps.getD 6 undef = .pointer (some ⟨g, 0, none⟩) ∧ a.tmps.getD 8 undef = .pointer (some ⟨gd, 0, none⟩) ∧ ∃ M : MM, MA w' w.heap.size g gd gl M (a.tmps.getD 7 undef) lo hi ∧ Below w.heap.size w w'
set_option maxRecDepth 1000000 in
set_option maxHeartbeats 4000000 in
theorem all_exit {w wr : World} {ao : Option Addr} {n cap g gd gl k : Nat} {v : Value} {M : MM} {lo hi : Int} {R Q0} (U : Nat → Value) (hn : n ≤ cap) (hn2 : cap ≤ 9223372036854775807) (hk : k ≤ n) (hk40 : k ≤ 40) (hno : ¬ (k < n ∧ k < 40))
    (HA : Hid (MA wr w.heap.size g gd gl M v lo hi)) (HB : Hid (Below w.heap.size w wr)) (hexit : ∀ a' w', AX w g gd gl lo hi a' w' → Q0 (.exit 0) a' w') :
    Code.wp Try.prog allBody (Exit.then R Q0) ⟨(U 0 :: (.slice ao n cap) :: (.pointer (some ⟨gl, 0, none⟩)) :: U 3 :: U 4 :: U 5 :: (.pointer (some ⟨g, 0, none⟩)) :: v :: (.pointer (some ⟨gd, 0, none⟩)) :: (.int .i64 (k : Int)) :: U 10 :: U 11 :: U 12 :: U 13 :: U 14 :: U 15 :: U 16 :: U 17 :: U 18 :: U 19 :: U 20 :: U 21 :: U 22 :: U 23 :: U 24 :: U 25 :: U 26 :: U 27 :: U 28 :: U 29 :: U 30 :: U 31 :: U 32 :: U 33 :: U 34 :: U 35 :: U 36 :: U 37 :: U 38 :: U 39 :: U 40 :: U 41 :: U 42 :: U 43 :: U 44 :: U 45 :: U 46 :: U 47 :: U 48 :: U 49 :: U 50 :: U 51 :: U 52 :: U 53 :: U 54 :: U 55 :: U 56 :: U 57 :: U 58 :: U 59 :: U 60 :: U 61 :: U 62 :: U 63 :: U 64 :: U 65 :: U 66 :: U 67 :: U 68 :: U 69 :: U 70 :: U 71 :: U 72 :: U 73 :: U 74 :: U 75 :: U 76 :: U 77 :: U 78 :: U 79 :: U 80 :: U 81 :: U 82 :: U 83 :: U 84 :: U 85 :: U 86 :: U 87 :: U 88 :: U 89 :: U 90 :: U 91 :: U 92 :: U 93 :: U 94 :: U 95 :: U 96 :: U 97 :: U 98 :: U 99 :: U 100 :: U 101 :: U 102 :: U 103 :: U 104 :: U 105 :: U 106 :: U 107 :: U 108 :: U 109 :: U 110 :: U 111 :: U 112 :: U 113 :: U 114 :: U 115 :: U 116 :: U 117 :: U 118 :: U 119 :: U 120 :: U 121 :: U 122 :: U 123 :: U 124 :: U 125 :: U 126 :: U 127 :: U 128 :: U 129 :: U 130 :: U 131 :: U 132 :: U 133 :: U 134 :: U 135 :: U 136 :: U 137 :: U 138 :: U 139 :: U 140 :: U 141 :: U 142 :: U 143 :: U 144 :: U 145 :: U 146 :: U 147 :: U 148 :: U 149 :: U 150 :: U 151 :: U 152 :: U 153 :: U 154 :: U 155 :: U 156 :: U 157 :: U 158 :: U 159 :: U 160 :: U 161 :: U 162 :: U 163 :: U 164 :: U 165 :: U 166 :: U 167 :: U 168 :: U 169 :: U 170 :: U 171 :: U 172 :: U 173 :: U 174 :: U 175 :: U 176 :: U 177 :: U 178 :: U 179 :: U 180 :: U 181 :: U 182 :: U 183 :: U 184 :: U 185 :: U 186 :: U 187 :: U 188 :: U 189 :: U 190 :: U 191 :: U 192 :: U 193 :: U 194 :: U 195 :: U 196 :: U 197 :: U 198 :: U 199 :: U 200 :: U 201 :: U 202 :: U 203 :: U 204 :: U 205 :: U 206 :: U 207 :: U 208 :: U 209 :: U 210 :: U 211 :: U 212 :: U 213 :: U 214 :: U 215 :: U 216 :: U 217 :: U 218 :: U 219 :: U 220 :: U 221 :: U 222 :: U 223 :: U 224 :: U 225 :: U 226 :: U 227 :: U 228 :: U 229 :: U 230 :: U 231 :: U 232 :: U 233 :: U 234 :: U 235 :: U 236 :: U 237 :: U 238 :: U 239 :: U 240 :: U 241 :: U 242 :: U 243 :: U 244 :: U 245 :: U 246 :: U 247 :: U 248 :: U 249 :: U 250 :: U 251 :: U 252 :: U 253 :: U 254 :: U 255 :: U 256 :: U 257 :: U 258 :: U 259 :: U 260 :: U 261 :: U 262 :: U 263 :: U 264 :: U 265 :: U 266 :: U 267 :: U 268 :: U 269 :: U 270 :: U 271 :: U 272 :: U 273 :: U 274 :: U 275 :: U 276 :: U 277 :: U 278 :: U 279 :: U 280 :: U 281 :: U 282 :: U 283 :: U 284 :: U 285 :: U 286 :: U 287 :: U 288 :: U 289 :: U 290 :: U 291 :: U 292 :: U 293 :: U 294 :: U 295 :: U 296 :: U 297 :: U 298 :: U 299 :: U 300 :: U 301 :: U 302 :: U 303 :: U 304 :: U 305 :: U 306 :: U 307 :: U 308 :: U 309 :: U 310 :: U 311 :: U 312 :: []).toArray, []⟩ wr := by
  have HE := hid hexit
  clear hexit
  conv => arg 2; whnf
  by_cases h1 : k < n
  · have h2 : decide ((k : Int) < 40) = false := by simp; omega
    have h3 : ¬ k < 40 := by omega
    clear hno
    go_wp2_with fail
    exact HE.out _ _ ⟨rfl, rfl, rfl, rfl, M, HA.out, HB.out⟩
  · clear hno
    go_wp2_with fail
    exact HE.out _ _ ⟨rfl, rfl, rfl, rfl, M, HA.out, HB.out⟩

set_option maxRecDepth 1000000 in
set_option maxHeartbeats 4000000 in
theorem all_round {w : World} {ao : Option Addr} {n cap g gd gl : Nat} {rows : List (List Int)} {q lo hi : Int} {Q0} (HX : Hid (RdS opK w ao n cap rows)) (hg : w.heap.size ≤ g) (hgd : w.heap.size ≤ gd) (hgl : w.heap.size ≤ gl)
    (hh : -1 ≤ hi) (hh2 : hi ≤ 1073741824) (hq0 : Hid (q = if hi = -1 then 16 else min hi 16)) (hexit : ∀ a' w', AX w g gd gl lo hi a' w' → Q0 (.exit 0) a' w') (a : Act) (wr : World) (hI : AI w ao n cap g gd gl q lo hi a wr) :
    Code.wp Try.prog allBody (Exit.then (fun a' w'' => AI w ao n cap g gd gl q lo hi a' w'' ∧ Amu a' < Amu a) Q0) a wr := by
  obtain ⟨hd, hs, e1, e2, e6, e8, k, M, hk, hk40, e9, hMq, hA, hB⟩ := hI
  have hmu : Amu a = 40 - k := by simp [Amu, e9, intOf]
  rw [hmu]
  clear hmu
  obtain ⟨t, ds⟩ := a
  simp only at hd hs e1 e2 e6 e8 e9 hA
  subst hd
  have ht := frame_of hs
  obtain ⟨U, hU⟩ : ∃ U : Nat → Value, U = fun i => t.getD i undef := ⟨_, rfl⟩
  rw [← hU, allFrame] at ht
  have hu : ∀ i, t.getD i undef = U i := fun i => by rw [hU]
  rw [hu] at e1 e2 e6 e8 e9 hA
  clear hU hu hs
  subst ht
  rw [e1, e2, e6, e8, e9]
  clear e1 e2 e6 e8 e9
  have hn := HX.out.le
  have hn2 := HX.out.cap63
  obtain ⟨v0, cv, e7, hrd⟩ := hA.b.rd
  have hp16 := hA.m.ok.pl
  have hcv := hrd.cap63
  have hcv2 := hrd.le
  obtain ⟨N, hN⟩ : ∃ N, (M.c.take (256 * M.p)).length = N := ⟨_, rfl⟩
  rw [hN] at e7 hcv2
  have hN2 : N = 256 * M.p := by rw [← hN]; simp [hA.m.ok.cl]; omega
  have hN16 : N ≤ 4096 := by omega
  rw [e7] at hA ⊢
  have HN := hid hN2
  have HQ := hid hMq
  have HA := hid hA
  have HB := hid hB
  clear hMq hA hB hrd hN hN2 e7
  by_cases hlt : k < n ∧ k < 40
  · obtain ⟨i1, i2⟩ := hlt
    obtain ⟨b, off, rfl, hc⟩ := HX.out.at (by omega) (by decide)
    have hwf := HX.out.wf k i1
    have hw5 := bounds_u64 (hwf 4 (by decide))
    have hw3 := bounds_i64 (hwf 3 (by decide))
    have hw2 := bounds_i64 (hwf 2 (by decide))
    have hw1 := bounds_i64 (hwf 1 (by decide))
    obtain ⟨kd, hkd⟩ : ∃ y, (rows.getD k []).getD 0 0 = y := ⟨_, rfl⟩
    obtain ⟨sz, hsz⟩ : ∃ y, (rows.getD k []).getD 1 0 = y := ⟨_, rfl⟩
    obtain ⟨at', hat⟩ : ∃ y, (rows.getD k []).getD 2 0 = y := ⟨_, rfl⟩
    obtain ⟨nn, hnn⟩ : ∃ y, (rows.getD k []).getD 3 0 = y := ⟨_, rfl⟩
    obtain ⟨x, hxx⟩ : ∃ y : Nat, (rows.getD k []).getD 4 0 = y := ⟨((rows.getD k []).getD 4 0).toNat, by omega⟩
    have c0 := hc k i1 0 (by decide)
    have c1 := hc k i1 1 (by decide)
    have c2 := hc k i1 2 (by decide)
    have c3 := hc k i1 3 (by decide)
    have c4 := hc k i1 4 (by decide)
    rw [show opK.length = 5 by rfl] at c0 c1 c2 c3 c4
    rw [show (off + (k * 5 + 0) : Nat) = off + k * 5 by omega, hkd, show opK.getD 0 .i64 = .i64 by rfl] at c0
    rw [show (off + (k * 5 + 1) : Nat) = off + k * 5 + 1 by omega, hsz, show opK.getD 1 .i64 = .i64 by rfl] at c1
    rw [show (off + (k * 5 + 2) : Nat) = off + k * 5 + 2 by omega, hat, show opK.getD 2 .i64 = .i64 by rfl] at c2
    rw [show (off + (k * 5 + 3) : Nat) = off + k * 5 + 3 by omega, hnn, show opK.getD 3 .i64 = .i64 by rfl] at c3
    rw [show (off + (k * 5 + 4) : Nat) = off + k * 5 + 4 by omega, hxx, show opK.getD 4 .i64 = .u64 by rfl] at c4
    have hx64 : x < 2 ^ 64 := by omega
    rw [hat] at hw2
    rw [hsz] at hw1
    rw [hnn] at hw3
    have hbw : b < w.heap.size := World.block_lt_of_cell? _ _ c0
    have HC := hid (And.intro c0 (And.intro c1 (And.intro c2 (And.intro c3 c4))))
    by_cases hk0 : kd = 0
    · by_cases hm : mayM M nn = true
      · exact all_grow U i1 i2 hn hn2 hg hgd hgl hbw HC hx64 hw2.1 hw2.2 HQ HA HB HN hN16 hcv2 hcv hk0 hh hh2 hq0 hm
      · exact all_grow_no U i1 i2 hn hn2 hg hgd hgl hbw HC hx64 hw2.1 hw2.2 HQ HA HB HN hN16 hcv2 hcv hk0 hh hh2 hq0 (by simpa using hm) hw3.1 hw3.2
    · by_cases hk1 : kd = 1
      · by_cases hs : sz = 1 ∨ sz = 4 ∨ sz = 8
        · by_cases hin : 0 ≤ at' ∧ at' ≤ N ∧ sz ≤ (N : Int) - at'
          · exact all_in1 U i1 i2 hn hn2 hg hgd hgl hbw HC hx64 hw2.1 hw2.2 HQ HA HB HN hN16 hcv2 hcv hk1 hs hin.1 hin.2.1 hin.2.2
          · exact all_out1 U i1 i2 hn hn2 hg hgd hgl hbw HC hx64 hw2.1 hw2.2 HQ HA HB HN hN16 hcv2 hcv hk1 hs hin
        · exact all_bad1 U i1 i2 hn hn2 hg hgd hgl hbw HC hx64 hw2.1 hw2.2 HQ HA HB HN hN16 hcv2 hcv hk1 (show _ ∧ _ from by omega)
      · by_cases hk2 : kd = 2
        · by_cases hs : sz = 1 ∨ sz = 4 ∨ sz = 8
          · by_cases hin : 0 ≤ at' ∧ at' ≤ N ∧ sz ≤ (N : Int) - at'
            · exact all_in2 U i1 i2 hn hn2 hg hgd hgl hbw HC hx64 hw2.1 hw2.2 HQ HA HB HN hN16 hcv2 hcv hk2 hs hin.1 hin.2.1 hin.2.2
            · exact all_out2 U i1 i2 hn hn2 hg hgd hgl hbw HC hx64 hw2.1 hw2.2 HQ HA HB HN hN16 hcv2 hcv hk2 hs hin
          · exact all_bad2 U i1 i2 hn hn2 hg hgd hgl hbw HC hx64 hw2.1 hw2.2 HQ HA HB HN hN16 hcv2 hcv hk2 (show _ ∧ _ from by omega)
        · by_cases hk3 : kd = 3
          · exact all_page U i1 i2 hn hn2 hg hgd hgl hbw HC hx64 hw2.1 hw2.2 HQ HA HB HN hN16 hcv2 hcv hk3 hw3.1 hw3.2 hw1.1 hw1.2
          · exact all_clean U i1 i2 hn hn2 hg hgd hgl hbw HC hx64 hw2.1 hw2.2 HQ HA HB HN hN16 hcv2 hcv (by omega)
  · exact all_exit U hn hn2 hk hk40 hlt HA HB hexit

theorem alloc29 (w : World) : (Instr.alloc 29 true (.tuple #[])).run Try.prog w = .ok (.pointer (some ⟨w.heap.size, 0, none⟩)) (w.alloc (.cells ((fls 16).map Value.bool).toArray 29)) := by kernel_rfl
set_option maxRecDepth 1000000 in
set_option maxHeartbeats 16000000 in
theorem memAll_walk (has : Bool) (lo hi : Int) (ao : Option Addr) (n cap : Nat) (rows : List (List Int)) (w : World) (hx : RdS opK w ao n cap rows) :
    Calls Try.prog 3 #[limV has lo hi, .slice ao n cap] w fun e w' => e = .returned (.bool true) ∧ Below w.heap.size w w' := by
  unfold limV
  have HX := hid hx
  have hn := hx.cap63
  have hn2 := hx.le
  clear hx
  go_enter Try.func3, Try.ntmps3
  go_wp2_with fail
  have hB0 := Bl.alloc (Bl.refl w) (.cells #[.bool has, .int .i64 lo, .int .i64 hi] 23)
  have hL0 := Blk.new w 23 [.bool has, .int .i64 lo, .int .i64 hi]
  obtain ⟨gl, hgl⟩ : ∃ gl, gl = w.heap.size := ⟨_, rfl⟩
  have hglw : w.heap.size ≤ gl := by omega
  rw [← hgl] at hL0 ⊢
  clear hgl
  generalize w.alloc (.cells #[.bool has, .int .i64 lo, .int .i64 hi] 23) = w0 at hB0 hL0 ⊢
  refine (begun_to w0).mono ?_
  rintro e w1 ⟨rfl, hb⟩
  have HB := hid (hB0.trans (hb.mono hB0.size))
  have HL := hid (hL0.bl hb)
  clear hb hB0 hL0
  have l0 := HL.out.cell 0
  have l1 := HL.out.cell 1
  have l2 := HL.out.cell 2
  simp only [List.getElem?_cons_zero, List.getElem?_cons_succ] at l0 l1 l2
  by_cases hr : hi < -1 ∨ 1073741824 < hi
  · rcases hr with h | h
    all_goals
      go_wp2_with fail
      all_goals
        go_ret
        exact ⟨rfl, HB.out⟩
  have h1 : ¬ hi < -1 := by omega
  have h2 : ¬ 1073741824 < hi := by omega
  clear hr
  by_cases hno : has = false ∨ lo < 0 ∨ 16 < lo
  · have hnw := new_no has lo hi w1 hno
    go_wp2_with fail
    refine hnw.mono ?_
    rintro e w2 ⟨rfl, hb⟩
    replace HL := hid (HL.out.bl hb)
    replace HB := hid (HB.out.trans (hb.mono HB.out.size))
    clear hb hnw l0 l1 l2
    have l0 := HL.out.cell 0
    have l1 := HL.out.cell 1
    simp only [List.getElem?_cons_zero, List.getElem?_cons_succ] at l0 l1
    rcases hno with h | h | h
    all_goals
      try subst h
      try (cases has)
      all_goals
        go_wp2_with fail
        all_goals
          go_ret
          exact ⟨rfl, HB.out⟩
  obtain ⟨lo, rfl⟩ : ∃ y : Nat, lo = y := ⟨lo.toNat, by omega⟩
  obtain rfl : has = true := by cases has <;> simp_all
  have h3 : (lo : Int) ≤ 16 := by omega
  clear hno
  have hnw := new_to lo hi w1 (by omega)
  obtain ⟨M, hMM⟩ : ∃ M, M = newM lo hi := ⟨_, rfl⟩
  obtain ⟨g, hgg⟩ : ∃ g, g = w1.heap.size + 1 := ⟨_, rfl⟩
  have hg : w.heap.size ≤ g := by have := HB.out.size; omega
  rw [← hMM, ← hgg] at hnw
  clear hgg
  go_wp2_with fail
  refine hnw.mono ?_
  rintro e w2 ⟨rfl, hM, hb⟩
  replace HL := hid (HL.out.bl hb)
  replace HB := hid (HB.out.trans (hb.mono HB.out.size))
  have HM := hid hM
  have hp1 : M.p = lo := by rw [hMM]; rfl
  have hq1 : M.q = if hi = -1 then 16 else min hi 16 := by rw [hMM]; rfl
  have hc1 : zer (256 * lo) = M.c.take (256 * M.p) := by rw [hp1, hMM]; exact (zer_take 4096 (256 * lo) (by omega)).symm
  have hd1 : fls 16 = M.d := by rw [hMM]; rfl
  have HMF := hid (And.intro hq1 (And.intro hc1 hd1))
  clear hb hM hnw l0 l1 l2 hMM hq1 hc1 hd1 hp1
  have l0 := HL.out.cell 0
  have l1 := HL.out.cell 1
  simp only [List.getElem?_cons_zero, List.getElem?_cons_succ] at l0 l1
  obtain ⟨L, hL⟩ : ∃ L : Nat, (256 : Int) * (lo : Int) = L := ⟨256 * lo, by simp⟩
  have hLL : L = 256 * lo := by omega
  have HLL := hid hLL
  have hL16 : L ≤ 4096 := by omega
  have hgw2 : w.heap.size ≤ w2.heap.size := HB.out.size
  clear hLL
  go_wp2_with (with_reducible refine wpList_make (o := ⟨some 56, _, _, _, _, none⟩) rfl 28 5 (.tmp 55) (.tmp 55) rfl L ?hl ?hmk ?_)
  case hl => omega
  case hmk => exact make_n L (by omega) _
  intro w3 h3b
  have hO := h3b.out.1
  replace HM := hid (HM.out.bl h3b.out.2)
  replace HL := hid (HL.out.bl h3b.out.2)
  replace HB := hid (HB.out.trans (h3b.out.2.mono HB.out.size))
  rw [HLL.out, HMF.out.2.1, ← HLL.out] at hO
  have HO := hid (hO.lift hgw2)
  clear h3b hO l0 l1
  have hgw3 : w.heap.size ≤ w3.heap.size := HB.out.size
  go_wp2_with (with_reducible refine wpList_var (o := ⟨some 8, .alloc 29, _, _, _, none⟩) rfl 29 rfl _ (alloc29 _) ?_)
  intro w4 h4
  obtain ⟨gd, hgd⟩ : ∃ gd, gd = w3.heap.size := ⟨_, rfl⟩
  have hD := h4.out.1
  rw [← hgd] at hD hgw3 ⊢
  rw [HMF.out.2.2] at hD
  have HA : Hid (MA w4 w.heap.size g gd gl M (.slice (some ⟨w2.heap.size, 0, none⟩) L L) lo hi) := hid ⟨HM.out.bl h4.out.2, HO.out.below h4.out.2 (Nat.le_refl _), hD, HL.out.bl h4.out.2⟩
  replace HB := hid (HB.out.trans (h4.out.2.mono HB.out.size))
  obtain ⟨q, hq⟩ : ∃ q, q = if hi = -1 then 16 else min hi 16 := ⟨_, rfl⟩
  have hMq := HMF.out.1
  rw [← hq] at hMq
  have HQ := hid hMq
  have HQQ := hid hq
  clear h4 hgd hD hMq hq HMF HM HO HL
  go_wp2_with fail
  refine wp_loop (AI w ao n cap g gd gl q lo hi) (fun a _ => Amu a) ?_ (fun a w'' hI => all_round HX hg hgw3 hglw h1 h2 HQQ ?_ a w'' hI)
  · exact ⟨rfl, rfl, rfl, rfl, rfl, rfl, 0, M, Nat.zero_le _, Nat.zero_le _, rfl, HQ.out, HA.out, HB.out⟩
  clear HA HB HQ
  intro a' w' hX
  obtain ⟨hd, hs, e6, e8, M', hA, hB⟩ := hX
  obtain ⟨t, ds⟩ := a'
  simp only at hd hs e6 e8 hA
  subst hd
  have ht := frame_of hs
  obtain ⟨U, hU⟩ : ∃ U : Nat → Value, U = fun i => t.getD i undef := ⟨_, rfl⟩
  rw [← hU, allFrame] at ht
  have hu : ∀ i, t.getD i undef = U i := fun i => by rw [hU]
  rw [hu] at e6 e8 hA
  clear hU hu hs
  subst ht
  rw [e6, e8]
  clear e6 e8
  obtain ⟨v0, cv, e7, hrd⟩ := hA.b.rd
  rw [e7] at hA ⊢
  have hdl := hA.m.ok.dl
  have hp16 := hA.m.ok.pl
  have hN : (M'.c.take (256 * M'.p)).length = 256 * M'.p := by simp [hA.m.ok.cl]; omega
  rw [hN] at hrd hA ⊢
  have hsm := same_to g M' v0 (256 * M'.p) cv _ w' hA.m hrd rfl rfl
  obtain ⟨D, hD⟩ : ∃ D, D = M'.d.map Value.bool := ⟨_, rfl⟩
  rw [← hD] at hsm
  have hblk : Blk w' gd 29 D := by rw [hD]; exact hA.d
  have hDl : D.length = 16 := by rw [hD]; simp [hdl]
  have hrg := hblk.range 0 D (fun j v h => by rwa [Nat.zero_add])
  have HRG := hid (And.intro hrg hDl)
  have HB := hid hB
  clear hA hB hrd hN hD hblk hrg hDl hdl hp16 e7
  go_wp2_with (with_reducible refine wpList_load_mid (op := ⟨some 311, .load 29 (.tmp 8), _, _, _, none⟩) rfl 29 (.tmp 8) rfl gd 0 ?l1 D _ HRG.out.1 Try.underlying29 ?l3 ?l4 ?_)
  case l1 => rfl
  case l3 => rfl
  case l4 => rw [HRG.out.2]; exact info29
  refine hsm.mono ?_
  rintro e w5 ⟨rfl, hb⟩
  have HB2 := hid (HB.out.trans (hb.mono HB.out.size))
  clear hb hsm
  go_wp2_with fail
  go_ret
  exact ⟨rfl, HB2.out⟩
end Go.Proofs.Ytcbchhnbkgaboaa
