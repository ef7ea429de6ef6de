/- space's laws: SpaceAll: its loop. -/
import Derived.Test.YthknmoaffapkhaaSpA1
import Derived.Test.YthknmoaffapkhaaSpA2
import Derived.Test.YthknmoaffapkhaaSpA3
import Derived.Test.YthknmoaffapkhaaSpA4
import Derived.Test.YthknmoaffapkhaaSpA5
import Derived.Test.YthknmoaffapkhaaSpA6
namespace Go.Proofs.Ythknmoaffapkhaa
open Go.RowKit Go.Maps
set_option linter.unusedVariables false

/-- Where the loop is left. -/
def AX (w : World) (n B ge m vcap : Nat) (vo : Option Addr) (S : Spc) (at' : Int) (a : Act) (w' : World) : Prop :=
  a.defers = [] ∧ a.tmps.size = 355 ∧ a.tmps.getD 0 undef = .int .i64 (n : Int) ∧ a.tmps.getD 3 undef = .int .i64 at' ∧ a.tmps.getD 11 undef = .slice vo m vcap ∧ a.tmps.getD 13 undef = .slice (some ⟨ge, 0, none⟩) n n ∧ a.tmps.getD 15 undef = spv S ∧
  ∃ (nb : Nat) (T : List Int) (V : List (Int × Int)), V.length = m ∧ MA w' w.heap.size B ge n S nb T V (.slice vo m vcap) ∧ Below w.heap.size w w'
set_option maxRecDepth 1000000 in
set_option maxHeartbeats 4000000 in
theorem all_exit {w wr : World} {oo vo : Option Addr} {on ocap k n B ge m vcap nb : Nat} {S : Spc} {T : List Int} {V : List (Int × Int)} {at' : Int} {R Q0} (U : Nat → Value) (hon : on ≤ ocap) (ho63 : ocap ≤ 9223372036854775807) (hk : k ≤ on) (hk30 : k ≤ 30) (hno : ¬ (k < on ∧ k < 30))
    (HVm : Hid (V.length = m)) (HA : Hid (MA wr w.heap.size B ge n S nb T V (.slice vo m vcap))) (HB : Hid (Below w.heap.size w wr)) (hexit : ∀ a' w', AX w n B ge m vcap vo S at' a' w' → Q0 (.exit 4) a' w') :
    Code.wp Try.prog allBody (Exit.then R Q0) ⟨((.int .i64 (n : Int)) :: U 1 :: (.slice oo on ocap) :: (.int .i64 at') :: U 4 :: U 5 :: U 6 :: U 7 :: U 8 :: U 9 :: U 10 :: (.slice vo m vcap) :: U 12 :: (.slice (some ⟨ge, 0, none⟩) n n) :: U 14 :: (spv S) :: (.int .i64 (k : Int)) :: U 17 :: U 18 :: U 19 :: U 20 :: U 21 :: U 22 :: U 23 :: U 24 :: U 25 :: U 26 :: U 27 :: U 28 :: U 29 :: U 30 :: U 31 :: U 32 :: U 33 :: U 34 :: U 35 :: U 36 :: U 37 :: U 38 :: U 39 :: U 40 :: U 41 :: U 42 :: U 43 :: U 44 :: U 45 :: U 46 :: U 47 :: U 48 :: U 49 :: U 50 :: U 51 :: U 52 :: U 53 :: U 54 :: U 55 :: U 56 :: U 57 :: U 58 :: U 59 :: U 60 :: U 61 :: U 62 :: U 63 :: U 64 :: U 65 :: U 66 :: U 67 :: U 68 :: U 69 :: U 70 :: U 71 :: U 72 :: U 73 :: U 74 :: U 75 :: U 76 :: U 77 :: U 78 :: U 79 :: U 80 :: U 81 :: U 82 :: U 83 :: U 84 :: U 85 :: U 86 :: U 87 :: U 88 :: U 89 :: U 90 :: U 91 :: U 92 :: U 93 :: U 94 :: U 95 :: U 96 :: U 97 :: U 98 :: U 99 :: U 100 :: U 101 :: U 102 :: U 103 :: U 104 :: U 105 :: U 106 :: U 107 :: U 108 :: U 109 :: U 110 :: U 111 :: U 112 :: U 113 :: U 114 :: U 115 :: U 116 :: U 117 :: U 118 :: U 119 :: U 120 :: U 121 :: U 122 :: U 123 :: U 124 :: U 125 :: U 126 :: U 127 :: U 128 :: U 129 :: U 130 :: U 131 :: U 132 :: U 133 :: U 134 :: U 135 :: U 136 :: U 137 :: U 138 :: U 139 :: U 140 :: U 141 :: U 142 :: U 143 :: U 144 :: U 145 :: U 146 :: U 147 :: U 148 :: U 149 :: U 150 :: U 151 :: U 152 :: U 153 :: U 154 :: U 155 :: U 156 :: U 157 :: U 158 :: U 159 :: U 160 :: U 161 :: U 162 :: U 163 :: U 164 :: U 165 :: U 166 :: U 167 :: U 168 :: U 169 :: U 170 :: U 171 :: U 172 :: U 173 :: U 174 :: U 175 :: U 176 :: U 177 :: U 178 :: U 179 :: U 180 :: U 181 :: U 182 :: U 183 :: U 184 :: U 185 :: U 186 :: U 187 :: U 188 :: U 189 :: U 190 :: U 191 :: U 192 :: U 193 :: U 194 :: U 195 :: U 196 :: U 197 :: U 198 :: U 199 :: U 200 :: U 201 :: U 202 :: U 203 :: U 204 :: U 205 :: U 206 :: U 207 :: U 208 :: U 209 :: U 210 :: U 211 :: U 212 :: U 213 :: U 214 :: U 215 :: U 216 :: U 217 :: U 218 :: U 219 :: U 220 :: U 221 :: U 222 :: U 223 :: U 224 :: U 225 :: U 226 :: U 227 :: U 228 :: U 229 :: U 230 :: U 231 :: U 232 :: U 233 :: U 234 :: U 235 :: U 236 :: U 237 :: U 238 :: U 239 :: U 240 :: U 241 :: U 242 :: U 243 :: U 244 :: U 245 :: U 246 :: U 247 :: U 248 :: U 249 :: U 250 :: U 251 :: U 252 :: U 253 :: U 254 :: U 255 :: U 256 :: U 257 :: U 258 :: U 259 :: U 260 :: U 261 :: U 262 :: U 263 :: U 264 :: U 265 :: U 266 :: U 267 :: U 268 :: U 269 :: U 270 :: U 271 :: U 272 :: U 273 :: U 274 :: U 275 :: U 276 :: U 277 :: U 278 :: U 279 :: U 280 :: U 281 :: U 282 :: U 283 :: U 284 :: U 285 :: U 286 :: U 287 :: U 288 :: U 289 :: U 290 :: U 291 :: U 292 :: U 293 :: U 294 :: U 295 :: U 296 :: U 297 :: U 298 :: U 299 :: U 300 :: U 301 :: U 302 :: U 303 :: U 304 :: U 305 :: U 306 :: U 307 :: U 308 :: U 309 :: U 310 :: U 311 :: U 312 :: U 313 :: U 314 :: U 315 :: U 316 :: U 317 :: U 318 :: U 319 :: U 320 :: U 321 :: U 322 :: U 323 :: U 324 :: U 325 :: U 326 :: U 327 :: U 328 :: U 329 :: U 330 :: U 331 :: U 332 :: U 333 :: U 334 :: U 335 :: U 336 :: U 337 :: U 338 :: U 339 :: U 340 :: U 341 :: U 342 :: U 343 :: U 344 :: U 345 :: U 346 :: U 347 :: U 348 :: U 349 :: U 350 :: U 351 :: U 352 :: U 353 :: U 354 :: []).toArray, []⟩ wr := by
  have HE := hid hexit
  clear hexit
  conv => arg 2; whnf
  by_cases h1 : k < on
  · have h2 : decide ((k : Int) < 30) = false := by simp; omega
    have h3 : ¬ k < 30 := by omega
    have d1 : decide ((k : Int) < (on : Int)) = true := by simp; omega
    clear hno
    go_wp2_with fail
    exact HE.out _ _ ⟨rfl, rfl, rfl, rfl, rfl, rfl, rfl, nb, T, V, HVm.out, HA.out, HB.out⟩
  · have d1 : decide ((k : Int) < (on : Int)) = false := by simp; omega
    clear hno
    go_wp2_with fail
    exact HE.out _ _ ⟨rfl, rfl, rfl, rfl, rfl, rfl, rfl, nb, T, V, HVm.out, HA.out, HB.out⟩
set_option maxRecDepth 1000000 in
set_option maxHeartbeats 4000000 in
theorem all_round {w : World} {oo vo : Option Addr} {on ocap n B ge m vcap : Nat} {S : Spc} {os : List OpM} {at' : Int} {Q0} (HX : Hid (RdO w oo on ocap os)) (hn16 : n ≤ 16) (hm16 : m ≤ 16) (hmc : m ≤ vcap) (hvc : vcap ≤ 9223372036854775807)
    (hexit : ∀ a' w', AX w n B ge m vcap vo S at' a' w' → Q0 (.exit 4) a' w') (a : Act) (wr : World) (hI : AI w oo on ocap n B ge m vcap vo S at' a wr) :
    Code.wp Try.prog allBody (Exit.then (fun a' w'' => AI w oo on ocap n B ge m vcap vo S at' a' w'' ∧ Amu a' < Amu a) Q0) a wr := by
  obtain ⟨hd, hs, e0, e2, e3, e11, e13, e15, k, nb, T, V, hk, hk30, hnb, hVm, e16, hA, hB⟩ := hI
  have hmu : Amu a = 30 - k := by simp [Amu, e16, intOf]
  rw [hmu]
  clear hmu
  obtain ⟨t, ds⟩ := a
  simp only at hd hs e0 e2 e3 e11 e13 e15 e16
  subst hd
  have ht := frame_of hs
  obtain ⟨U, hU⟩ : ∃ U : Nat → Value, U = fun i => t.getD i undef := ⟨_, rfl⟩
  rw [← hU, allFrame] at ht
  have hu : ∀ i, t.getD i undef = U i := fun i => by rw [hU]
  rw [hu] at e0 e2 e3 e11 e13 e15 e16
  clear hU hu hs
  subst ht
  rw [e0, e2, e3, e11, e13, e15, e16]
  clear e0 e2 e3 e11 e13 e15 e16
  have hon := HX.out.le
  have hox := HX.out.max
  have ho63 : ocap ≤ 9223372036854775807 := by unfold maxLen at hox; omega
  have HVm := hid hVm
  have HA := hid hA
  have HB := hid hB
  clear hVm hA hB hox
  by_cases hlt : k < on ∧ k < 30
  · obtain ⟨i1, i2⟩ := hlt
    obtain ⟨b, off, rfl, hc, hok⟩ := HX.out.cell k i1
    obtain ⟨o, ho⟩ : ∃ o, os.getD k default = o := ⟨_, rfl⟩
    rw [ho] at hc hok
    have hbw : b < w.heap.size := World.block_lt_of_cell? _ _ (hc 0 _ rfl)
    have HC := hid hc
    have HO := hid hok
    by_cases hk0 : o.kd = 0
    · by_cases hin : 0 ≤ o.n ∧ o.n ≤ n ∧ ((min o.fl 20 : Nat) : Int) ≤ (n : Int) - o.n
      · exact all_lay U i1 i2 hon ho63 hn16 hm16 hmc hvc hbw HC HO HA HB hnb HVm hk0 hin.1 hin.2.1 hin.2.2
      · exact all_out U i1 i2 hon ho63 hn16 hm16 hmc hvc hbw HC HO HA HB hnb HVm hk0 (by omega)
    · by_cases hN : 0 ≤ o.n ∧ o.n < (m : Int)
      · by_cases hm : okv o.vk o.vn = true
        · by_cases hkd : (V.getD o.n.toNat (0, 0)).1 = o.vk
          · exact all_set U i1 i2 hon ho63 hn16 hm16 hmc hvc hbw HC HO HA HB hnb HVm hk0 hN.1 hN.2 hm hkd
          · exact all_kind U i1 i2 hon ho63 hn16 hm16 hmc hvc hbw HC HO HA HB hnb HVm hk0 hN.1 hN.2 hm hkd
        · by_cases hkd : (V.getD o.n.toNat (0, 0)).1 = o.vk
          · exact all_bad1 U i1 i2 hon ho63 hn16 hm16 hmc hvc hbw HC HO HA HB hnb HVm hk0 hN.1 hN.2 (by simpa using hm) hkd
          · exact all_bad2 U i1 i2 hon ho63 hn16 hm16 hmc hvc hbw HC HO HA HB hnb HVm hk0 hN.1 hN.2 (by simpa using hm) hkd
      · exact all_none U i1 i2 hon ho63 hn16 hm16 hmc hvc hbw HC HO HA HB hnb HVm hk0 (by omega)
  · exact all_exit U hon ho63 hk hk30 hlt HVm HA HB hexit
end Go.Proofs.Ythknmoaffapkhaa
