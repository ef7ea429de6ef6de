/- space's laws: SpaceAll: functions that find room. -/
import Derived.Test.YthknmoaffapkhaaSpA0
import Derived.Deep.CutBlock
namespace Go.Proofs.Ythknmoaffapkhaa
open Go.RowKit Go.Maps
set_option linter.unusedVariables false
theorem layT_map (T : List Int) (j : Nat) (F : List Int) : splice (T.map (Value.int .i64)) j (F.map (Value.int .i64)) = (layT T j F).map (Value.int .i64) := by
  simp [layT, splice, List.map_take, List.map_drop]
set_option maxRecDepth 1000000 in
set_option maxHeartbeats 4000000 in
theorem all_lay {w wr : World} {b off on ocap k n B ge m vcap nb : Nat} {vo : Option Addr} {S : Spc} {T : List Int} {V : List (Int × Int)} {o : OpM} {at' : Int} {Q0 : Exit → Act → World → Prop} (U : Nat → Value)
    (i1 : k < on) (i2 : k < 30) (hon : on ≤ ocap) (ho63 : ocap ≤ 9223372036854775807) (hn16 : n ≤ 16) (hm16 : m ≤ 16) (hmc : m ≤ vcap) (hvc : vcap ≤ 9223372036854775807) (hbw : b < w.heap.size)
    (HC : Hid (∀ j u, o.cells[j]? = some u → w.cell? ⟨b, off + k * 5 + j, none⟩ = some u)) (HO : Hid (o.ok w)) (HA : Hid (MA wr w.heap.size B ge n S nb T V (.slice vo m vcap))) (HB : Hid (Below w.heap.size w wr)) (hnb : nb ≤ 16 * k) (HVm : Hid (V.length = m))
    (hk : o.kd = 0) (h0 : 0 ≤ o.n) (h1 : o.n ≤ n) (hin : ((min o.fl 20 : Nat) : Int) ≤ (n : Int) - o.n) :
    Code.wp Try.prog allBody (Exit.then (fun a' w'' => AI w (some ⟨b, off, none⟩) on ocap n B ge m vcap vo S at' a' w'' ∧ Amu a' < 30 - k) Q0) ⟨((.int .i64 (n : Int)) :: U 1 :: (.slice (some ⟨b, off, none⟩) on ocap) :: (.int .i64 at') :: U 4 :: U 5 :: U 6 :: U 7 :: U 8 :: U 9 :: U 10 :: (.slice vo m vcap) :: U 12 :: (.slice (some ⟨ge, 0, none⟩) n n) :: U 14 :: (spv S) :: (.int .i64 (k : Int)) :: U 17 :: U 18 :: U 19 :: U 20 :: U 21 :: U 22 :: U 23 :: U 24 :: U 25 :: U 26 :: U 27 :: U 28 :: U 29 :: U 30 :: U 31 :: U 32 :: U 33 :: U 34 :: U 35 :: U 36 :: U 37 :: U 38 :: U 39 :: U 40 :: U 41 :: U 42 :: U 43 :: U 44 :: U 45 :: U 46 :: U 47 :: U 48 :: U 49 :: U 50 :: U 51 :: U 52 :: U 53 :: U 54 :: U 55 :: U 56 :: U 57 :: U 58 :: U 59 :: U 60 :: U 61 :: U 62 :: U 63 :: U 64 :: U 65 :: U 66 :: U 67 :: U 68 :: U 69 :: U 70 :: U 71 :: U 72 :: U 73 :: U 74 :: U 75 :: U 76 :: U 77 :: U 78 :: U 79 :: U 80 :: U 81 :: U 82 :: U 83 :: U 84 :: U 85 :: U 86 :: U 87 :: U 88 :: U 89 :: U 90 :: U 91 :: U 92 :: U 93 :: U 94 :: U 95 :: U 96 :: U 97 :: U 98 :: U 99 :: U 100 :: U 101 :: U 102 :: U 103 :: U 104 :: U 105 :: U 106 :: U 107 :: U 108 :: U 109 :: U 110 :: U 111 :: U 112 :: U 113 :: U 114 :: U 115 :: U 116 :: U 117 :: U 118 :: U 119 :: U 120 :: U 121 :: U 122 :: U 123 :: U 124 :: U 125 :: U 126 :: U 127 :: U 128 :: U 129 :: U 130 :: U 131 :: U 132 :: U 133 :: U 134 :: U 135 :: U 136 :: U 137 :: U 138 :: U 139 :: U 140 :: U 141 :: U 142 :: U 143 :: U 144 :: U 145 :: U 146 :: U 147 :: U 148 :: U 149 :: U 150 :: U 151 :: U 152 :: U 153 :: U 154 :: U 155 :: U 156 :: U 157 :: U 158 :: U 159 :: U 160 :: U 161 :: U 162 :: U 163 :: U 164 :: U 165 :: U 166 :: U 167 :: U 168 :: U 169 :: U 170 :: U 171 :: U 172 :: U 173 :: U 174 :: U 175 :: U 176 :: U 177 :: U 178 :: U 179 :: U 180 :: U 181 :: U 182 :: U 183 :: U 184 :: U 185 :: U 186 :: U 187 :: U 188 :: U 189 :: U 190 :: U 191 :: U 192 :: U 193 :: U 194 :: U 195 :: U 196 :: U 197 :: U 198 :: U 199 :: U 200 :: U 201 :: U 202 :: U 203 :: U 204 :: U 205 :: U 206 :: U 207 :: U 208 :: U 209 :: U 210 :: U 211 :: U 212 :: U 213 :: U 214 :: U 215 :: U 216 :: U 217 :: U 218 :: U 219 :: U 220 :: U 221 :: U 222 :: U 223 :: U 224 :: U 225 :: U 226 :: U 227 :: U 228 :: U 229 :: U 230 :: U 231 :: U 232 :: U 233 :: U 234 :: U 235 :: U 236 :: U 237 :: U 238 :: U 239 :: U 240 :: U 241 :: U 242 :: U 243 :: U 244 :: U 245 :: U 246 :: U 247 :: U 248 :: U 249 :: U 250 :: U 251 :: U 252 :: U 253 :: U 254 :: U 255 :: U 256 :: U 257 :: U 258 :: U 259 :: U 260 :: U 261 :: U 262 :: U 263 :: U 264 :: U 265 :: U 266 :: U 267 :: U 268 :: U 269 :: U 270 :: U 271 :: U 272 :: U 273 :: U 274 :: U 275 :: U 276 :: U 277 :: U 278 :: U 279 :: U 280 :: U 281 :: U 282 :: U 283 :: U 284 :: U 285 :: U 286 :: U 287 :: U 288 :: U 289 :: U 290 :: U 291 :: U 292 :: U 293 :: U 294 :: U 295 :: U 296 :: U 297 :: U 298 :: U 299 :: U 300 :: U 301 :: U 302 :: U 303 :: U 304 :: U 305 :: U 306 :: U 307 :: U 308 :: U 309 :: U 310 :: U 311 :: U 312 :: U 313 :: U 314 :: U 315 :: U 316 :: U 317 :: U 318 :: U 319 :: U 320 :: U 321 :: U 322 :: U 323 :: U 324 :: U 325 :: U 326 :: U 327 :: U 328 :: U 329 :: U 330 :: U 331 :: U 332 :: U 333 :: U 334 :: U 335 :: U 336 :: U 337 :: U 338 :: U 339 :: U 340 :: U 341 :: U 342 :: U 343 :: U 344 :: U 345 :: U 346 :: U 347 :: U 348 :: U 349 :: U 350 :: U 351 :: U 352 :: U 353 :: U 354 :: []).toArray, []⟩ wr := by
  obtain ⟨kd, nn, fo, fl, fc, fs, vk, vn⟩ := o
  simp only at hk
  subst hk
  have c0 := (HB.out.cell hbw).trans (HC.out 0 _ rfl)
  have c1 := (HB.out.cell hbw).trans (HC.out 1 _ rfl)
  have c2 := (HB.out.cell hbw).trans (HC.out 2 _ rfl)
  have c3 := (HB.out.cell hbw).trans (HC.out 3 _ rfl)
  have c4 := (HB.out.cell hbw).trans (HC.out 4 _ rfl)
  rw [Nat.add_zero] at c0
  have hn1 := bounds_i64 HO.out.n1
  have hfl := HO.out.fs.le
  have hfc := HO.out.fs.cap63
  simp only at c0 c1 c2 c3 c4 hn1 hfl hfc
  have hk30 : decide ((k : Int) < 30) = true := by simp; omega
  conv => arg 2; whnf
  go_upto_region 25 with (fail)
  obtain ⟨go, hgo⟩ : ∃ go, go = wr.heap.size := ⟨_, rfl⟩
  have hO := Blk.new wr 45 [.int .i64 0, .int .i64 nn, .slice fo fl fc, .int .i64 vk, .int .i64 vn]
  have hb := Bl.alloc (Bl.refl wr) (.cells #[.int .i64 0, .int .i64 nn, .slice fo fl fc, .int .i64 vk, .int .i64 vn] 45)
  have hgoB : B ≤ go := by rw [hgo]; exact HA.out.hBw
  rw [← hgo] at hO ⊢
  clear hgo
  generalize wr.alloc (.cells #[.int .i64 0, .int .i64 nn, .slice fo fl fc, .int .i64 vk, .int .i64 vn] 45) = w1 at hO hb ⊢
  replace HA := hid (HA.out.bl hb)
  replace HB := hid (HB.out.trans (hb.mono HB.out.size))
  have HGO := hid hO
  have o0 : w1.cell? ⟨go, 0, none⟩ = some (.int .i64 0) := HGO.out.cell 0
  have o1 : w1.cell? ⟨go, 1, none⟩ = some (.int .i64 nn) := HGO.out.cell 1
  have o2 : w1.cell? ⟨go, 2, none⟩ = some (.slice fo fl fc) := HGO.out.cell 2
  have o3 : w1.cell? ⟨go, 3, none⟩ = some (.int .i64 vk) := HGO.out.cell 3
  have o4 : w1.cell? ⟨go, 4, none⟩ = some (.int .i64 vn) := HGO.out.cell 4
  have hgow := HGO.out.lt
  clear hO hb c0 c1 c2 c3 c4
  have HOUT := hid (And.intro h0 (And.intro h1 hin))
  clear h0 h1 hin
  have SLT := HA.out.s.lt.2
  obtain ⟨L, hL⟩ : ∃ L, L = min fl 20 := ⟨_, rfl⟩
  have hLl : L ≤ fl := by omega
  have hL20 : L ≤ 20 := by omega
  have HL := hid hL
  clear hL
  go_upto_block 6 with fail
  go_cut [18, 19] from 109 to 130 (fun v i wc => i = .int .i64 (L : Int) ∧ Hid (Own 3 .i64 w1.heap.size wc v (nrms fs L) ∧ Below w1.heap.size w1 wc))
  case first =>
    go_wp2_with fail
    go_loopw [18, 19] (fun v i wr => ∃ k : Nat, k ≤ L ∧ i = .int .i64 k ∧ Own 3 .i64 w1.heap.size wr v (nrms fs k) ∧ Below w1.heap.size w1 wr) (fun _ i _ => L - (intOf i).toNat)
    case atStart => exact ⟨0, Nat.zero_le _, rfl, Own.nil _ _ _ _, Below.refl _ _⟩
    case round =>
      obtain ⟨q, hq, rfl, hV, hB1⟩ := hrel
      have p2 := (hB1.cell (p := ⟨go, 2, none⟩) hgow).trans o2
      have hgor := Nat.lt_of_lt_of_le hgow hB1.size
      by_cases hlt : q < L
      · have hBw := HB.out.trans (hB1.mono HB.out.size)
        obtain ⟨xb, xo, rfl, hc⟩ := (HO.out.fs.below hBw).at (by show 0 < fl; omega)
        have hck := hc q (by show q < fl; omega)
        obtain ⟨z, hz⟩ : ∃ z, fs.getD q 0 = z := ⟨_, rfl⟩
        simp only [hz] at hck
        have hxl := World.block_lt_of_cell? _ _ hck
        simp only at hxl
        obtain ⟨r, y, hr1, hr2, hr3, hr4, hr5⟩ := nrm_steps z
        have hfsl : fs.length = fl := HO.out.fs.len
        have hns := nrms_snoc fs q (by omega)
        have hnl := nrms_len fs q (by omega)
        rw [hz, ← hr4] at hns
        have hwy : (Lit.int .i64 y).wf = true := WalkArith.wf_i64 (by omega)
        have d1 : decide ((q : Int) < (fl : Int)) = true := by simp; omega
        have d2 : decide ((q : Int) < 20) = true := by simp; omega
        have d4 : IntKind.i64.wrap (r + 1000) = r + 1000 := IntWalk.i64_in _ (by omega)
        have hs3 := hB1.size
        have hrd := Rd.built wr .i64 3 y hwy
        have HV := hid (And.intro (hV.alloc (.cells #[.int .i64 y] 3)) (And.intro hB1 hrd))
        have HN := hid (And.intro hns hnl)
        clear hc hz hr4 hns hnl hV hB1 hrd hfsl hBw
        go_wp2_with (at_builtin; refine wpList_append_rd rfl (.tmp 120) (.tmp 129) 29 rfl 3 .i64 w1.heap.size 8 Try.underlying29 infoI u18 (nrms fs q) rfl HV.out.1 (some ⟨wr.heap.size, 0, none⟩) 1 1 [y] rfl HV.out.2.2 (by rw [HN.out.2]; omega) (by rw [HN.out.2]; omega) (by simp; omega) ?_; intro v' w4 h1 h2 h3; apply stopHere)
        refine hid ?_
        rw [HN.out.1] at h1
        have hB4 : Below w1.heap.size w1 w4 := HV.out.2.1.trans (((Bl.alloc (Bl.refl wr) (.cells #[.int .i64 y] 3)).mono hs3).trans h2)
        have H := hid (And.intro h1 hB4)
        clear h1 h2 h3 hB4 HV HN hck p2
        go_wp2_with fail
        go_roundw
        case rel => exact ⟨q + 1, by omega, by go_num, H.out⟩
        case measure => simp [intOf]; omega
      · obtain rfl : L = q := by omega
        have H := hid (And.intro hV hB1)
        clear hV hB1 hlt hq
        by_cases hq : L < fl
        · have d1 : decide ((L : Int) < (fl : Int)) = true := by simp; omega
          have d2 : decide ((L : Int) < 20) = false := by have := HL.out; simp; omega
          go_wp2_with fail
          go_meet
          case rel => exact ⟨rfl, H⟩
        · have d1 : decide ((L : Int) < (fl : Int)) = false := by simp; omega
          go_wp2_with fail
          go_meet
          case rel => exact ⟨rfl, H⟩
  obtain ⟨rfl, H⟩ := hcut
  have hFl0 : (nrms fs L).length = L := nrms_len fs L (by have : fs.length = fl := HO.out.fs.len; omega)
  have hFi0 := nrms_in fs L
  obtain ⟨F, hF⟩ : ∃ F, nrms fs L = F := ⟨_, rfl⟩
  rw [hF] at H hFl0 hFi0
  obtain ⟨hV, hB1⟩ := H.out
  obtain ⟨fo2, fc2, ev, hrF⟩ := hV.rd
  rw [hFl0] at ev hrF
  subst ev
  have HV := hid (And.intro hV (And.intro hrF hFi0))
  have HFL := hid hFl0
  have q1 := (hB1.cell (p := ⟨go, 1, none⟩) hgow).trans o1
  have hgoc := Nat.lt_of_lt_of_le hgow hB1.size
  replace HA := hid (HA.out.bl hB1)
  replace HB := hid (HB.out.trans (hB1.mono HB.out.size))
  have HGC := hid (HGO.out.bl hB1)
  have hlo : w1.heap.size ≤ wc.heap.size := hB1.size
  have hfc2 := hrF.cap63
  have hfl2 := hrF.le
  have hSlt : S.bm < w1.heap.size := SLT
  clear hF H hV hB1 hFl0 hFi0 o0 o1 o2 o3 o4 hrF
  have hin2 : 0 ≤ nn ∧ nn ≤ n ∧ (L : Int) ≤ (n : Int) - nn := by
    have := HOUT.out
    simp only at this
    rw [← HL.out] at this
    exact this
  clear HOUT
  obtain ⟨j, rfl⟩ : ∃ j : Nat, nn = j := ⟨nn.toNat, by omega⟩
  have hjn : j ≤ n := by omega
  have hjL : j + L ≤ n := by omega
  clear hin2
  have d1 : decide ((0 : Int) ≤ (j : Int)) = true := by simp
  have d2 : decide ((j : Int) ≤ (n : Int)) = true := by simp; omega
  have d3 : decide ((L : Int) ≤ (n : Int) - (j : Int)) = true := by simp; omega
  have d4 : IntKind.i64.wrap ((n : Int) - (j : Int)) = (n : Int) - j := IntWalk.i64_in _ (by omega)
  have hTl := HA.out.hT
  have hset := setElems_to HA.out.s j fo2 fc2 F (by rw [HFL.out]; exact HV.out.2.1) (fun f hf => by have := HV.out.2.2 f hf; omega) (by rw [HFL.out, hTl]; exact hjL) (by omega) (fun ad e => by have := (HV.out.1.lt ad.block (by rw [e]; rfl)).1; omega)
  rw [HFL.out] at hset
  obtain ⟨T2, hT2⟩ : ∃ T2, layT T j F = T2 := ⟨_, rfl⟩
  rw [hT2] at hset
  have hT2l : T2.length = n := by rw [← hT2, layT_len _ _ _ (by rw [HFL.out, hTl]; exact hjL)]; exact hTl
  have hT2w : ∀ f ∈ T2, -1 ≤ f ∧ f ≤ 999 := by
    intro f hf
    rw [← hT2] at hf
    rcases layT_mem hf with hf | hf
    · exact HA.out.hTw f hf
    · have := HV.out.2.2 f hf; omega
  have HT2 := hid (And.intro hT2 (And.intro hT2l (And.intro hT2w hTl)))
  clear hT2 hT2l hT2w hTl
  have hL16 : L ≤ 16 := by omega
  go_wp2_with fail
  refine hset.mono ?_
  rintro e w4 ⟨rfl, hS, hW⟩
  clear hset
  have hb4 := hW.below (B := B) HA.out.hBw HA.out.s.hb
  obtain ⟨D, hmap, _⟩ := HA.out.s.map
  have hV4 := HV.out.1.wr hW (HV.out.1.ne_map hmap)
  have hG4 := HGC.out.grown hW (fun e => HGC.out.ne_map hmap (by simpa using e))
  have r1 : w4.cell? ⟨go, 1, none⟩ = some (.int .i64 (j : Int)) := hG4.cell 1
  have hgo4 := hG4.lt
  obtain ⟨he4, _, hBw4⟩ := HA.out.turn hS hb4
  have HS := hid (And.intro hS (And.intro hb4 (And.intro hV4 he4)))
  have hcut := fun w => run_cut_l (P := Try.prog) 29 elem_i size_i (some ⟨ge, 0, none⟩) n n (j : Int) j rfl hjn w
  have hge0 := HA.out.hge0
  have hsw4 : w.heap.size ≤ w4.heap.size := by have := HA.out.hB; omega
  have HB4 := hid (HB.out.trans (hb4.mono HA.out.hB))
  have hsz1 : (Try.prog.info? 3).map (·.size) = some 1 := by
    obtain ⟨i0, hi, _, hz1, _⟩ := info_parts infoI
    rw [hi]; simp [hz1]
  clear hS hW hb4 hmap hV4 hG4 he4 q1
  by_cases hL0 : L = 0
  · subst hL0
    have hF0 : F = [] := List.eq_nil_of_length_eq_zero HFL.out
    have hT2e : T2 = T := by rw [← HT2.out.1, hF0]; exact layT_nil T j
    have HX : Hid (MA w4 w.heap.size B ge n S (nb + 0) T2 V (.slice vo m vcap)) := hid (HA.out.lay HS.out.1 HS.out.2.1 HT2.out.2.1 HT2.out.2.2.1 (Wr.refl _ _) (by rw [hT2e]; exact HS.out.2.2.2))
    go_wp2_with (refine wpList_copy_nothing rfl (.tmp 160) (.tmp 161) 29 29 rfl 3 Try.underlying29 hsz1 (cutAt (some ⟨ge, 0, none⟩) j n) fo2 (n - j) (n - j) 0 fc2 rfl rfl (Nat.zero_min _) ?_)
    go_wp2_with fail
    refine ⟨⟨rfl, rfl, rfl, rfl, rfl, rfl, rfl, rfl, k + 1, nb + 0, T2, V, by omega, by omega, by omega, HVm.out, by show Value.int .i64 ((k : Int) + 1) = _; go_num, HX.out, HB4.out⟩, ?_⟩
    show 30 - (intOf (Value.int .i64 ((k : Int) + 1))).toNat < 30 - k
    simp [intOf]
    omega
  · have hca : cutAt (some ⟨ge, 0, none⟩) j n = some ⟨ge, j, none⟩ := by
      unfold cutAt
      rw [if_neg (by omega)]
      simp [Addr.add_lit]
    rw [hca] at hcut
    obtain ⟨ao5, c5, e5, hr5⟩ := HS.out.2.2.1.rd
    rw [HFL.out] at e5 hr5
    injection e5 with e51 _ e53
    subst e51 e53
    obtain ⟨gf, of, rfl, _⟩ := hr5.at (by omega)
    have HR5 := hid hr5
    clear hr5
    go_wp2_with (refine wpList_copy_blk rfl (.tmp 160) (.tmp 161) 29 29 rfl 3 Try.underlying29 hsz1 ge j (n - j) (n - j) ⟨gf, of, none⟩ L fc2 rfl rfl (T.map (Value.int .i64)) 3 HS.out.2.2.2 (F.map (Value.int .i64)) (by rw [List.length_map, HFL.out]; exact (Nat.min_eq_left (by omega)).symm) (HR5.out.news rfl) (by rw [List.length_map, List.length_map, HFL.out, HT2.out.2.2.2]; exact hjL) (ints_oneCell _ _) ?_; intro w5 hw5; apply stopHere)
    refine hid ?_
    obtain ⟨hw51, hw52⟩ := hw5.out
    rw [layT_map, HT2.out.1] at hw51
    have HX := hid (And.intro (HA.out.lay HS.out.1 HS.out.2.1 HT2.out.2.1 HT2.out.2.2.1 hw52 hw51) (HB4.out.trans (hw52.below hsw4 hge0)))
    clear hw5 hw51 hw52 r1
    go_wp2_with fail
    refine ⟨⟨rfl, rfl, rfl, rfl, rfl, rfl, rfl, rfl, k + 1, nb + L, T2, V, by omega, by omega, by omega, HVm.out, by show Value.int .i64 ((k : Int) + 1) = _; go_num, HX.out⟩, ?_⟩
    show 30 - (intOf (Value.int .i64 ((k : Int) + 1))).toNat < 30 - k
    simp [intOf]
    omega
end Go.Proofs.Ythknmoaffapkhaa
