/- space's laws: SpaceAll: the words of its loop. -/
import Derived.Test.YthknmoaffapkhaaSpx
namespace Go.Proofs.Ythknmoaffapkhaa
open Go.RowKit Go.Maps
set_option linter.unusedVariables false

def loopsOf : Code → List Code
  | .loop c => c :: loopsOf c
  | .seq a b => loopsOf a ++ loopsOf b
  | .block _ c => loopsOf c
  | .scope c => loopsOf c
  | .cond _ a b => loopsOf a ++ loopsOf b
  | _ => []
noncomputable def allBody : Code := ((Try.f3.body.map loopsOf).getD []).getD 2 .skip
theorem frame_of {t : Array Value} {n : Nat} (h : t.size = n) : t = ((List.range n).map fun i => t.getD i undef).toArray := by
  apply Array.ext
  · simp [h]
  · intro i h1 h2
    simp [h1]
set_option maxRecDepth 1000000 in
theorem allFrame (U : Nat → Value) : ((List.range 355).map U).toArray = (U 0 :: U 1 :: U 2 :: U 3 :: U 4 :: U 5 :: U 6 :: U 7 :: U 8 :: U 9 :: U 10 :: U 11 :: U 12 :: U 13 :: U 14 :: U 15 :: U 16 :: U 17 :: U 18 :: U 19 :: U 20 :: U 21 :: U 22 :: U 23 :: U 24 :: U 25 :: U 26 :: U 27 :: U 28 :: U 29 :: U 30 :: U 31 :: U 32 :: U 33 :: U 34 :: U 35 :: U 36 :: U 37 :: U 38 :: U 39 :: U 40 :: U 41 :: U 42 :: U 43 :: U 44 :: U 45 :: U 46 :: U 47 :: U 48 :: U 49 :: U 50 :: U 51 :: U 52 :: U 53 :: U 54 :: U 55 :: U 56 :: U 57 :: U 58 :: U 59 :: U 60 :: U 61 :: U 62 :: U 63 :: U 64 :: U 65 :: U 66 :: U 67 :: U 68 :: U 69 :: U 70 :: U 71 :: U 72 :: U 73 :: U 74 :: U 75 :: U 76 :: U 77 :: U 78 :: U 79 :: U 80 :: U 81 :: U 82 :: U 83 :: U 84 :: U 85 :: U 86 :: U 87 :: U 88 :: U 89 :: U 90 :: U 91 :: U 92 :: U 93 :: U 94 :: U 95 :: U 96 :: U 97 :: U 98 :: U 99 :: U 100 :: U 101 :: U 102 :: U 103 :: U 104 :: U 105 :: U 106 :: U 107 :: U 108 :: U 109 :: U 110 :: U 111 :: U 112 :: U 113 :: U 114 :: U 115 :: U 116 :: U 117 :: U 118 :: U 119 :: U 120 :: U 121 :: U 122 :: U 123 :: U 124 :: U 125 :: U 126 :: U 127 :: U 128 :: U 129 :: U 130 :: U 131 :: U 132 :: U 133 :: U 134 :: U 135 :: U 136 :: U 137 :: U 138 :: U 139 :: U 140 :: U 141 :: U 142 :: U 143 :: U 144 :: U 145 :: U 146 :: U 147 :: U 148 :: U 149 :: U 150 :: U 151 :: U 152 :: U 153 :: U 154 :: U 155 :: U 156 :: U 157 :: U 158 :: U 159 :: U 160 :: U 161 :: U 162 :: U 163 :: U 164 :: U 165 :: U 166 :: U 167 :: U 168 :: U 169 :: U 170 :: U 171 :: U 172 :: U 173 :: U 174 :: U 175 :: U 176 :: U 177 :: U 178 :: U 179 :: U 180 :: U 181 :: U 182 :: U 183 :: U 184 :: U 185 :: U 186 :: U 187 :: U 188 :: U 189 :: U 190 :: U 191 :: U 192 :: U 193 :: U 194 :: U 195 :: U 196 :: U 197 :: U 198 :: U 199 :: U 200 :: U 201 :: U 202 :: U 203 :: U 204 :: U 205 :: U 206 :: U 207 :: U 208 :: U 209 :: U 210 :: U 211 :: U 212 :: U 213 :: U 214 :: U 215 :: U 216 :: U 217 :: U 218 :: U 219 :: U 220 :: U 221 :: U 222 :: U 223 :: U 224 :: U 225 :: U 226 :: U 227 :: U 228 :: U 229 :: U 230 :: U 231 :: U 232 :: U 233 :: U 234 :: U 235 :: U 236 :: U 237 :: U 238 :: U 239 :: U 240 :: U 241 :: U 242 :: U 243 :: U 244 :: U 245 :: U 246 :: U 247 :: U 248 :: U 249 :: U 250 :: U 251 :: U 252 :: U 253 :: U 254 :: U 255 :: U 256 :: U 257 :: U 258 :: U 259 :: U 260 :: U 261 :: U 262 :: U 263 :: U 264 :: U 265 :: U 266 :: U 267 :: U 268 :: U 269 :: U 270 :: U 271 :: U 272 :: U 273 :: U 274 :: U 275 :: U 276 :: U 277 :: U 278 :: U 279 :: U 280 :: U 281 :: U 282 :: U 283 :: U 284 :: U 285 :: U 286 :: U 287 :: U 288 :: U 289 :: U 290 :: U 291 :: U 292 :: U 293 :: U 294 :: U 295 :: U 296 :: U 297 :: U 298 :: U 299 :: U 300 :: U 301 :: U 302 :: U 303 :: U 304 :: U 305 :: U 306 :: U 307 :: U 308 :: U 309 :: U 310 :: U 311 :: U 312 :: U 313 :: U 314 :: U 315 :: U 316 :: U 317 :: U 318 :: U 319 :: U 320 :: U 321 :: U 322 :: U 323 :: U 324 :: U 325 :: U 326 :: U 327 :: U 328 :: U 329 :: U 330 :: U 331 :: U 332 :: U 333 :: U 334 :: U 335 :: U 336 :: U 337 :: U 338 :: U 339 :: U 340 :: U 341 :: U 342 :: U 343 :: U 344 :: U 345 :: U 346 :: U 347 :: U 348 :: U 349 :: U 350 :: U 351 :: U 352 :: U 353 :: U 354 :: []).toArray := by rfl

/-- What the law holds at each round's head. -/
structure MA (w : World) (B0 B ge n : Nat) (S : Spc) (nb : Nat) (T : List Int) (V : List (Int × Int)) (v : Value) : Prop where
  s : SpAt B w S nb T V
  e : Blk w ge 3 (T.map (Value.int .i64))
  va : OwnC 39 2 B0 w v (V.map vc)
  hge : ge < B
  hv : ∀ q, v.ownBlock = some q → q < B
  hge0 : B0 ≤ ge
  hB : B0 ≤ B
  hT : T.length = n
  hTw : ∀ f ∈ T, -1 ≤ f ∧ f ≤ 999
  hBw : B ≤ w.heap.size
section
variable {w w' : World} {B0 B ge n nb : Nat} {S : Spc} {T : List Int} {V : List (Int × Int)} {v : Value}
theorem MA.bl (h : MA w B0 B ge n S nb T V v) (hb : Below w.heap.size w w') : MA w' B0 B ge n S nb T V v :=
  ⟨h.s.bl hb, h.e.bl hb, h.va.below hb (Nat.le_refl _), h.hge, h.hv, h.hge0, h.hB, h.hT, h.hTw, Nat.le_trans h.hBw hb.size⟩
/-- The Space's own blocks alone have turned. -/
theorem MA.turn {nb2 : Nat} {T2 : List Int} {V2 : List (Int × Int)} (h : MA w B0 B ge n S nb T V v) (hs : SpAt B w' S nb2 T2 V2) (hb : Below B w w') : Blk w' ge 3 (T.map (Value.int .i64)) ∧ OwnC 39 2 B0 w' v (V.map vc) ∧ B ≤ w'.heap.size :=
  ⟨h.e.below hb h.hge, h.va.low hb h.hv, Nat.le_trans h.hBw hb.size⟩
theorem MA.lay {w1 : World} {nb2 : Nat} {T2 : List Int} (h : MA w1 B0 B ge n S nb T V v) (hs : SpAt B w S nb2 T2 V) (hb : Below B w1 w) (hT2 : T2.length = n) (hTw2 : ∀ f ∈ T2, -1 ≤ f ∧ f ≤ 999) (hw : Wr ge w w') (he : Blk w' ge 3 (T2.map (Value.int .i64))) : MA w' B0 B ge n S nb2 T2 V v := by
  obtain ⟨he1, hv, hBw⟩ := h.turn hs hb
  have hge := h.hge
  exact ⟨hs.grown hw (by have := hs.hp; simp; omega) (by have := hs.hb; simp; omega) (fun q hq => by have := (hs.gl.lt q hq).1; simp; omega), he, hv.grown hw (fun q hq e => hv.ne_blk he1 (by decide) (by rw [hq]; exact e.symm)), h.hge, h.hv, h.hge0, h.hB, hT2, hTw2, Nat.le_trans hBw hw.size⟩
theorem OwnC.setV {E : TypeId} {B g i n cap : Nat} {w : World} {V : List (Int × Int)} (h : OwnC E 2 B w (.slice (some ⟨g, 0, none⟩) n cap) (V.map vc)) (hi : i < V.length) (v : Int × Int) :
    OwnC E 2 B ((w.setCell ⟨g, i * 2, none⟩ (.int .i64 v.1)).setCell ⟨g, i * 2 + 1, none⟩ (.int .i64 v.2)) (.slice (some ⟨g, 0, none⟩) n cap) ((V.set i v).map vc) := by
  have hg1 := h.set i 0 (.int .i64 v.1) (by simpa using hi) (by decide)
  have hg2 := hg1.set i 1 (.int .i64 v.2) (by simpa using hi) (by decide)
  have e3 : (V.set i v).map vc = ((V.map vc).set i (((V.map vc).getD i []).set 0 (.int .i64 v.1))).set i (((((V.map vc).set i (((V.map vc).getD i []).set 0 (.int .i64 v.1)))).getD i []).set 1 (.int .i64 v.2)) := by
    rw [List.set_set, List.map_set]
    congr 1
    simp [List.getD, hi, vc]
  rw [e3]
  exact hg2
theorem MA.put {gv m cap j : Nat} {x : Int × Int} (h : MA w B0 B ge n S nb T V (.slice (some ⟨gv, 0, none⟩) m cap)) (hj : j < V.length) (hs : SpAt B w' S nb T (V.set j x)) (hb : Below B w w') :
    MA ((w'.setCell ⟨gv, j * 2, none⟩ (.int .i64 x.1)).setCell ⟨gv, j * 2 + 1, none⟩ (.int .i64 x.2)) B0 B ge n S nb T (V.set j x) (.slice (some ⟨gv, 0, none⟩) m cap) ∧ B0 ≤ gv := by
  obtain ⟨he, hv, hBw⟩ := h.turn hs hb
  have hgv : gv < B := h.hv gv rfl
  have hne : gv ≠ ge := fun e => hv.ne_blk he (by decide) (by rw [← e]; rfl)
  have n1 : gv ≠ S.p := by have := hs.hp; omega
  have n2 : gv ≠ S.bm := by have := hs.hb; omega
  have n3 : ∀ q, S.gs.ownBlock = some q → gv ≠ q := fun q hq => by have := (hs.gl.lt q hq).1; omega
  have s1 := (hs.grown (grown_set w' ⟨gv, j * 2, none⟩ (.int .i64 x.1)) (by simpa using n1) (by simpa using n2) (fun q hq => by simpa using n3 q hq)).grown (grown_set _ ⟨gv, j * 2 + 1, none⟩ (.int .i64 x.2)) (by simpa using n1) (by simpa using n2) (fun q hq => by simpa using n3 q hq)
  exact ⟨⟨s1, (he.far (p := ⟨gv, j * 2, none⟩) (Ne.symm hne) _).far (p := ⟨gv, j * 2 + 1, none⟩) (Ne.symm hne) _, hv.setV hj x, h.hge, h.hv, h.hge0, h.hB, h.hT, h.hTw, by simpa using hBw⟩, (h.va.lt gv rfl).1⟩
end
/-- The loop's own: which slots hold what, where it stands. -/
def AI (w : World) (oo : Option Addr) (on ocap n B ge m vcap : Nat) (vo : Option Addr) (S : Spc) (at' : Int) (a : Act) (w' : World) : Prop :=
  a.defers = [] ∧ a.tmps.size = 355 ∧ a.tmps.getD 0 undef = .int .i64 (n : Int) ∧ a.tmps.getD 2 undef = .slice oo on ocap ∧ a.tmps.getD 3 undef = .int .i64 at' ∧ a.tmps.getD 11 undef = .slice vo m vcap ∧ a.tmps.getD 13 undef = .slice (some ⟨ge, 0, none⟩) n n ∧ a.tmps.getD 15 undef = spv S ∧
  ∃ (k nb : Nat) (T : List Int) (V : List (Int × Int)), k ≤ on ∧ k ≤ 30 ∧ nb ≤ 16 * k ∧ V.length = m ∧ a.tmps.getD 16 undef = .int .i64 (k : Int) ∧ MA w' w.heap.size B ge n S nb T V (.slice vo m vcap) ∧ Below w.heap.size w w'
def Amu (a : Act) : Nat := 30 - (intOf (a.tmps.getD 16 undef)).toNat
end Go.Proofs.Ythknmoaffapkhaa
