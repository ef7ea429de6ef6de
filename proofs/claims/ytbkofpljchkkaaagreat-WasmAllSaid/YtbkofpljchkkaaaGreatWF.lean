/- Words: WF. -/
import Derived.Test.YtbkofpljchkkaaaGreatWB
import Derived.Test.YtbkofpljchkkaaaGreatWD
import Derived.Test.YtbkofpljchkkaaaGreatWE
import Derived.Test.YtbkofpljchkkaaaGreatKA
set_option maxRecDepth 100000
set_option maxHeartbeats 2000000
namespace Go.Proofs.YtbkofpljchkkaaaGreat
open Go.RowKit
theorem Cel.rd {w:World} {p:Nat} {k:IntKind} {xs:List Int} (h:Cel w p (xs.map fun x=>.int k x)) (hx:xs.length <= maxLen) (hwf:∀ x ∈ xs,(Lit.int k x).wf=true):Rd k w (some ⟨p,0,none⟩) xs.length xs.length xs:=by
 refine ⟨rfl,qW8 _,hx,(fun e=>by cases e),fun ad ha i hi=>?_,hwf⟩
 cases ha
 have:=h.cell i (.int k (xs.getD i 0)) (by simp [List.getD,hi]);rw [show (⟨p,0,none⟩:Addr).add i=⟨p,i,none⟩ by simp [Addr.add];exact fun e=>e.symm];exact this
theorem qI4 {α:Type} (s:Nat):∀ (css:List (List α)) (i j:Nat) (cs:List α) (v:α),(∀ cs ∈ css,cs.length=s) -> css[i]?=some cs -> cs[j]?=some v -> css.flatten[i * s + j]?=some v
 | [],i,j,cs,v,_,h,_=>by simp at h
 | c :: q,0,j,cs,v,hs,h,hv=>by
   simp only [List.getElem?_cons_zero,Option.some.injEq] at h;subst h;have hj:j < c.length:=(qXt.1 hv).1;rw [List.flatten_cons,Nat.zero_mul,Nat.zero_add,List.getElem?_append_left hj];exact hv
 | c :: q,i + 1,j,cs,v,hs,h,hv=>by
   simp only [List.getElem?_cons_succ] at h;have hc:=hs c (by simp);have hi:(i + 1) * s + j=c.length + (i * s + j):=by rw [hc,Nat.add_mul];omega
   rw [List.flatten_cons,hi,List.getElem?_append_right (Nat.le_add_right _ _),Nat.add_sub_cancel_left];exact qI4 s q i j cs v (fun d hd=>hs d (List.mem_cons_of_mem _ hd)) h hv
theorem Cel.rdG {α:Type} {s:Nat} {R:World -> List Value -> α -> Prop} {w:World} {p:Nat} {css:List (List Value)} {xs:List α} (h:Cel w p css.flatten) (hs:∀ cs ∈ css,cs.length=s) (hl:css.length=xs.length) (hx:xs.length <= maxLen)
    (hR:∀ (i:Nat) (cs:List Value) (x:α),css[i]?=some cs -> xs[i]?=some x -> R w cs x):RdG s R w (some ⟨p,0,none⟩) xs.length xs.length xs:=by
 refine ⟨rfl,qW8 _,hx,(fun e=>by cases e),fun i x hi=>?_⟩
 have hil:i < css.length:=by rw [hl];exact (qXt.1 hi).1
 refine ⟨p,0,css[i],rfl,hs _ (List.getElem_mem hil),hR i _ x (qW6 hil) hi,fun j v hv=>?_⟩
 rw [Nat.zero_add]
 exact h.cell _ _ (qI4 s css i j _ v hs (qW6 hil) hv)
theorem qJ6:1 <= maxLen:=by decide
theorem Cel.one {α:Type} {s:Nat} {R:World -> List Value -> α -> Prop} {w:World} {p:Nat} {cs:List Value} {x:α} (h:Cel w p cs) (hs:cs.length=s) (hR:R w cs x):RdG s R w (some ⟨p,0,none⟩) 1 1 [x] :=
 Cel.rdG (css:=[cs]) (xs:=[x]) (by simpa using h) (by simpa using hs) rfl qJ6 fun i c y hc hy=>by
  match i with
  | 0=>simp at hc hy;subst hc hy;exact hR
  | n + 1=>simp at hc
theorem qVw {V:MoV} {M:MMo} {w:World} (h:MoR V M w):MoOk M:=by
 constructor
 ·intro x hx
  obtain ⟨i,hi,rfl⟩:=List.getElem_of_mem hx;obtain ⟨_,_,_,_,_,hr,_⟩:=h.g.cell i _ (qW6 hi);exact hr.2
 ·intro x hx I hI
  obtain ⟨i,hi,rfl⟩:=List.getElem_of_mem hx;obtain ⟨_,_,_,_,_,⟨_,_,_,_,_,_,_,_,hb⟩,_⟩:=h.c.cell i _ (qW6 hi);obtain ⟨j,hj,rfl⟩:=List.getElem_of_mem hI;obtain ⟨_,_,_,_,_,⟨_,_,_,_,_,hok⟩,_⟩:=hb.cell j _ (qW6 hj);exact hok
abbrev qUs:ByteArray:=⟨#[97,100,100]⟩
def vV (ls:List Int):MMo:={ types:=[⟨[1,1],[1]⟩],funcs:=[0],exports:=[⟨qUs,0⟩],codes:=[⟨ls,[⟨32,0,0,[]⟩,⟨32,1,0,[]⟩,⟨106,0,0,[]⟩]⟩] }
def qI5 (p:Nat):MoV:=⟨⟨some ⟨p + 3,0,none⟩,1,1⟩,⟨none,0,0⟩,⟨some ⟨p + 4,0,none⟩,1,1⟩,⟨none,0,0⟩,⟨some ⟨p + 5,0,none⟩,1,1⟩,⟨none,0,0⟩,⟨some ⟨p + 7,0,none⟩,1,1⟩,⟨none,0,0⟩⟩
structure SmC (p:Nat) (w:World):Prop where
 a1:Cel w (p + 1) [.int .i64 1,.int .i64 1]
 a2:Cel w (p + 2) [.int .i64 1]
 a3:Cel w (p + 3) [.slice (some ⟨p + 1,0,none⟩) 2 2,.slice (some ⟨p + 2,0,none⟩) 1 1]
 a4:Cel w (p + 4) [.int .i64 0]
 a5:Cel w (p + 5) [.string qUs,.int .i64 0]
 a6:Cel w (p + 6) [.int .i64 32,.int .i64 0,.int .i64 0,.slice none 0 0,.int .i64 32,.int .i64 1,.int .i64 0,.slice none 0 0,.int .i64 106,.int .i64 0,.int .i64 0,.slice none 0 0]
theorem SmC.same {p:Nat} {w w':World} (h:SmC p w) (hb:∀ b,p + 1 <= b -> b <= p + 6 -> w'.heap[b]?=w.heap[b]?):SmC p w' :=
 ⟨h.a1.same (hb _ (by omega) (by omega)),h.a2.same (hb _ (by omega) (by omega)),h.a3.same (hb _ (by omega) (by omega)),h.a4.same (hb _ (by omega) (by omega)),h.a5.same (hb _ (by omega) (by omega)),h.a6.same (hb _ (by omega) (by omega))⟩
theorem qAv (o a:Int) (_:0 <= o /\ o <= 255) (ha:0 <= a /\ a <= 255):okI ⟨o,a,0,[]⟩:=by
 unfold okI;show -9223372036854775808 <= a /\ a <= 9223372036854775807;omega
theorem SmC.mo {p:Nat} {w:World} (h:SmC p w) {ao:Option Addr} {n c:Nat} {ls:List Int} (h7:Cel w (p + 7) [.slice ao n c,.slice (some ⟨p + 6,0,none⟩) 3 3]) (hr:Rd .i64 w ao n c ls):MoR (qI5 p) (vV ls) w:=by
 refine ⟨?_,RdG.empty w,?_,RdG.empty w,?_,RdG.empty w,?_,RdG.empty w⟩
 ·exact h.a3.one rfl ⟨_,_,_,_,_,_,rfl,Cel.rd (xs:=[1,1]) h.a1 (by decide) (by decide),Cel.rd (xs:=[1]) h.a2 (by decide) (by decide)⟩
 ·exact Cel.rd (xs:=[0]) h.a4 (by decide) (by decide)
 ·exact h.a5.one rfl rfl
 ·refine h7.one rfl ⟨_,_,_,_,_,_,rfl,hr,?_⟩
  refine Cel.rdG (css:=[[.int .i64 32,.int .i64 0,.int .i64 0,.slice none 0 0],[.int .i64 32,.int .i64 1,.int .i64 0,.slice none 0 0],[.int .i64 106,.int .i64 0,.int .i64 0,.slice none 0 0]]) (xs:=([⟨32,0,0,[]⟩,⟨32,1,0,[]⟩,⟨106,0,0,[]⟩]:List Ins)) (s:=4) (R:=InR) h.a6 (by simp) rfl (by decide) fun i cs x hc hx=>?_
  match i with
  | 0=>simp at hc hx;subst hc hx;exact ⟨_,_,_,rfl,Rd.empty w _,qAv _ _ (by decide) (by decide)⟩
  | 1=>simp at hc hx;subst hc hx;exact ⟨_,_,_,rfl,Rd.empty w _,qAv _ _ (by decide) (by decide)⟩
  | 2=>simp at hc hx;subst hc hx;exact ⟨_,_,_,rfl,Rd.empty w _,qAv _ _ (by decide) (by decide)⟩
  | n + 3=>simp at hc
theorem qOw (w:World):Calls Tryz.prog 17 #[] w fun e w'=>e=.returned (.agg ((qI5 w.heap.size).cells (vV [])).toArray) /\ SmC w.heap.size w' /\ Cel w' (w.heap.size + 7) [.slice none 0 0,.slice (some ⟨w.heap.size + 6,0,none⟩) 3 3] /\ Below w.heap.size w w' /\ w'.heap.size=w.heap.size + 8:=by
 obtain ⟨w1,hw1⟩:∃ x,w.alloc (.cells #[.slice (some ⟨w.heap.size + 1 + 1 + 1,0,none⟩) 1 1,.slice none 0 0,.slice (some ⟨w.heap.size + 1 + 1 + 1 + 1,0,none⟩) 1 1,.bool false,.int .i64 0,.int .i64 0,.bool false,.int .i64 0,.int .i64 0,.slice none 0 0,.slice (some ⟨w.heap.size + 1 + 1 + 1 + 1 + 1,0,none⟩) 1 1,.slice none 0 0,.slice (some ⟨w.heap.size + 1 + 1 + 1 + 1 + 1 + 1 + 1,0,none⟩) 1 1,.slice none 0 0] 33)=x:=⟨_,rfl⟩
 have s1:w1.heap.size=w.heap.size + 1:=by rw [<- hw1];simp
 have b1:Below w.heap.size w w1:=by rw [<- hw1];exact Bl.alloc (Bl.refl _) _
 have c1:Cel w1 w.heap.size [.slice (some ⟨w.heap.size + 1 + 1 + 1,0,none⟩) 1 1,.slice none 0 0,.slice (some ⟨w.heap.size + 1 + 1 + 1 + 1,0,none⟩) 1 1,.bool false,.int .i64 0,.int .i64 0,.bool false,.int .i64 0,.int .i64 0,.slice none 0 0,.slice (some ⟨w.heap.size + 1 + 1 + 1 + 1 + 1,0,none⟩) 1 1,.slice none 0 0,.slice (some ⟨w.heap.size + 1 + 1 + 1 + 1 + 1 + 1 + 1,0,none⟩) 1 1,.slice none 0 0]:=by rw [<- hw1];exact Cel.new w [.slice (some ⟨w.heap.size + 1 + 1 + 1,0,none⟩) 1 1,.slice none 0 0,.slice (some ⟨w.heap.size + 1 + 1 + 1 + 1,0,none⟩) 1 1,.bool false,.int .i64 0,.int .i64 0,.bool false,.int .i64 0,.int .i64 0,.slice none 0 0,.slice (some ⟨w.heap.size + 1 + 1 + 1 + 1 + 1,0,none⟩) 1 1,.slice none 0 0,.slice (some ⟨w.heap.size + 1 + 1 + 1 + 1 + 1 + 1 + 1,0,none⟩) 1 1,.slice none 0 0] _
 obtain ⟨w2,hw2⟩:∃ x,w1.alloc (.cells #[.int .i64 1,.int .i64 1] 3)=x:=⟨_,rfl⟩
 have s2:w2.heap.size=w1.heap.size + 1:=by rw [<- hw2];simp
 have b2:Below w1.heap.size w1 w2:=by rw [<- hw2];exact Bl.alloc (Bl.refl _) _
 have c2:Cel w2 w1.heap.size [.int .i64 1,.int .i64 1]:=by rw [<- hw2];exact Cel.new w1 [.int .i64 1,.int .i64 1] _
 obtain ⟨w3,hw3⟩:∃ x,w2.alloc (.cells #[.int .i64 1] 3)=x:=⟨_,rfl⟩
 have s3:w3.heap.size=w2.heap.size + 1:=by rw [<- hw3];simp
 have b3:Below w2.heap.size w2 w3:=by rw [<- hw3];exact Bl.alloc (Bl.refl _) _
 have c3:Cel w3 w2.heap.size [.int .i64 1]:=by rw [<- hw3];exact Cel.new w2 [.int .i64 1] _
 obtain ⟨w4,hw4⟩:∃ x,w3.alloc (.cells #[.slice (some ⟨w.heap.size + 1,0,none⟩) 2 2,.slice (some ⟨w.heap.size + 1 + 1,0,none⟩) 1 1] 53)=x:=⟨_,rfl⟩
 have s4:w4.heap.size=w3.heap.size + 1:=by rw [<- hw4];simp
 have b4:Below w3.heap.size w3 w4:=by rw [<- hw4];exact Bl.alloc (Bl.refl _) _
 have c4:Cel w4 w3.heap.size [.slice (some ⟨w.heap.size + 1,0,none⟩) 2 2,.slice (some ⟨w.heap.size + 1 + 1,0,none⟩) 1 1]:=by rw [<- hw4];exact Cel.new w3 [.slice (some ⟨w.heap.size + 1,0,none⟩) 2 2,.slice (some ⟨w.heap.size + 1 + 1,0,none⟩) 1 1] _
 obtain ⟨w5,hw5⟩:∃ x,w4.alloc (.cells #[.int .i64 0] 3)=x:=⟨_,rfl⟩
 have s5:w5.heap.size=w4.heap.size + 1:=by rw [<- hw5];simp
 have b5:Below w4.heap.size w4 w5:=by rw [<- hw5];exact Bl.alloc (Bl.refl _) _
 have c5:Cel w5 w4.heap.size [.int .i64 0]:=by rw [<- hw5];exact Cel.new w4 [.int .i64 0] _
 obtain ⟨w6,hw6⟩:∃ x,w5.alloc (.cells #[.string qUs,.int .i64 0] 60)=x:=⟨_,rfl⟩
 have s6:w6.heap.size=w5.heap.size + 1:=by rw [<- hw6];simp
 have b6:Below w5.heap.size w5 w6:=by rw [<- hw6];exact Bl.alloc (Bl.refl _) _
 have c6:Cel w6 w5.heap.size [.string qUs,.int .i64 0]:=by rw [<- hw6];exact Cel.new w5 [.string qUs,.int .i64 0] _
 obtain ⟨w7,hw7⟩:∃ x,w6.alloc (.cells #[.int .i64 32,.int .i64 0,.int .i64 0,.slice none 0 0,.int .i64 32,.int .i64 1,.int .i64 0,.slice none 0 0,.int .i64 106,.int .i64 0,.int .i64 0,.slice none 0 0] 51)=x:=⟨_,rfl⟩
 have s7:w7.heap.size=w6.heap.size + 1:=by rw [<- hw7];simp
 have b7:Below w6.heap.size w6 w7:=by rw [<- hw7];exact Bl.alloc (Bl.refl _) _
 have c7:Cel w7 w6.heap.size [.int .i64 32,.int .i64 0,.int .i64 0,.slice none 0 0,.int .i64 32,.int .i64 1,.int .i64 0,.slice none 0 0,.int .i64 106,.int .i64 0,.int .i64 0,.slice none 0 0]:=by rw [<- hw7];exact Cel.new w6 [.int .i64 32,.int .i64 0,.int .i64 0,.slice none 0 0,.int .i64 32,.int .i64 1,.int .i64 0,.slice none 0 0,.int .i64 106,.int .i64 0,.int .i64 0,.slice none 0 0] _
 obtain ⟨w8,hw8⟩:∃ x,w7.alloc (.cells #[.slice none 0 0,.slice (some ⟨w.heap.size + 1 + 1 + 1 + 1 + 1 + 1,0,none⟩) 3 3] 49)=x:=⟨_,rfl⟩
 have s8:w8.heap.size=w7.heap.size + 1:=by rw [<- hw8];simp
 have b8:Below w7.heap.size w7 w8:=by rw [<- hw8];exact Bl.alloc (Bl.refl _) _
 have c8:Cel w8 w7.heap.size [.slice none 0 0,.slice (some ⟨w.heap.size + 1 + 1 + 1 + 1 + 1 + 1,0,none⟩) 3 3]:=by rw [<- hw8];exact Cel.new w7 [.slice none 0 0,.slice (some ⟨w.heap.size + 1 + 1 + 1 + 1 + 1 + 1,0,none⟩) 3 3] _
 have e1:w1.heap.size=w.heap.size + 1:=s1;have e2:w2.heap.size=w.heap.size + 2:=by omega
 have e3:w3.heap.size=w.heap.size + 3:=by omega
 have e4:w4.heap.size=w.heap.size + 4:=by omega
 have e5:w5.heap.size=w.heap.size + 5:=by omega
 have e6:w6.heap.size=w.heap.size + 6:=by omega
 have e7:w7.heap.size=w.heap.size + 7:=by omega
 have e8:w8.heap.size=w.heap.size + 8:=by omega
 have d1:=(((((((c1.below (qW5 _) b2).below (qW5 _) b3).below (qW5 _) b4).below (qW5 _) b5).below (qW5 _) b6).below (qW5 _) b7).below (qW5 _) b8)
 have d2:=((((((c2.below (qW5 _) b3).below (qW5 _) b4).below (qW5 _) b5).below (qW5 _) b6).below (qW5 _) b7).below (qW5 _) b8)
 have d3:=(((((c3.below (qW5 _) b4).below (qW5 _) b5).below (qW5 _) b6).below (qW5 _) b7).below (qW5 _) b8)
 have d4:=((((c4.below (qW5 _) b5).below (qW5 _) b6).below (qW5 _) b7).below (qW5 _) b8)
 have d5:=(((c5.below (qW5 _) b6).below (qW5 _) b7).below (qW5 _) b8)
 have d6:=((c6.below (qW5 _) b7).below (qW5 _) b8)
 have d7:=(c7.below (qW5 _) b8)
 have d8:=c8;rw [e1] at d2;rw [e2] at d3;rw [e3] at d4;rw [e4] at d5;rw [e5] at d6;rw [e6] at d7;rw [e7] at d8;have hb:=Bl.step (Bl.step (Bl.step (Bl.step (Bl.step (Bl.step (Bl.step (b1) b2) b3) b4) b5) b6) b7) b8;have H:=hid (And.intro (SmC.mk d2 d3 d4 d5 d6 d7) (And.intro d8 (And.intro hb e8)));have HD:=hid d1;clear d1 d2 d3 d4 d5 d6 d7 d8 hb b1 c1 s1 e1 b2 c2 s2 e2 b3 c3 s3 e3 b4 c4 s4 e4 b5 c5 s5 e5 b6 c6 s6 e6 b7 c7 s7 e7 b8 c8 s8 e8;have HW1:=hid hw1;have HW2:=hid hw2;have HW3:=hid hw3;have HW4:=hid hw4;have HW5:=hid hw5;have HW6:=hid hw6;have HW7:=hid hw7;have HW8:=hid hw8;clear hw1 hw2 hw3 hw4 hw5 hw6 hw7 hw8;go_enter Tryz.func17,Tryz.ntmps17;go_wp2_with fail;rw [HW1.out,HW2.out,HW3.out,HW4.out,HW5.out,HW6.out,HW7.out,HW8.out];refine bodyPost_ret (v:=.agg #[.slice (some ⟨w.heap.size + 1 + 1 + 1,0,none⟩) 1 1,.slice none 0 0,.slice (some ⟨w.heap.size + 1 + 1 + 1 + 1,0,none⟩) 1 1,.bool false,.int .i64 0,.int .i64 0,.bool false,.int .i64 0,.int .i64 0,.slice none 0 0,.slice (some ⟨w.heap.size + 1 + 1 + 1 + 1 + 1,0,none⟩) 1 1,.slice none 0 0,.slice (some ⟨w.heap.size + 1 + 1 + 1 + 1 + 1 + 1 + 1,0,none⟩) 1 1,.slice none 0 0]) ?_ rfl ⟨rfl,H.out⟩;have a0:=HD.out.cell 0 _ rfl;have a1:=HD.out.cell 1 _ rfl;have a2:=HD.out.cell 2 _ rfl;have a3:=HD.out.cell 3 _ rfl;have a4:=HD.out.cell 4 _ rfl;have a5:=HD.out.cell 5 _ rfl;have a6:=HD.out.cell 6 _ rfl;have a7:=HD.out.cell 7 _ rfl;have a8:=HD.out.cell 8 _ rfl;have a9:=HD.out.cell 9 _ rfl;have a10:=HD.out.cell 10 _ rfl;have a11:=HD.out.cell 11 _ rfl;have a12:=HD.out.cell 12 _ rfl;have a13:=HD.out.cell 13 _ rfl;simp [results,Tryz.results17,go_sem,a0,a1,a2,a3,a4,a5,a6,a7,a8,a9,a10,a11,a12,a13]
open Go.RowKit
theorem qOx {p:Nat} {w:World} (h:SmC p w) (h7:Cel w (p + 7) [.slice none 0 0,.slice (some ⟨p + 6,0,none⟩) 3 3]) (hs:p + 8 <= w.heap.size):Rx w (MoR (qI5 p) (vV [])):=fun w' h' =>
 (h.same fun b _ _=>h' b (show b < w.heap.size by omega)).mo (h7.same (h' (p + 7) (show p + 7 < w.heap.size by omega))) (Rd.empty w' .i64)
theorem qMd:jT (vV [])=true:=by kernel_rfl
theorem qMe:(moE (vV [])).length=41:=by kernel_rfl
theorem qOy:qAr (vV []) (vV [])=true:=by kernel_rfl
theorem qMf:qAr (vV []) {}=false:=by kernel_rfl
theorem qJ7:qQ7 {}=yX:=by kernel_rfl
theorem qOz:jT { funcs:=[0] }=false:=by kernel_rfl
theorem qMg (w:World):Rx w (MoR ⟨⟨none,0,0⟩,⟨none,0,0⟩,⟨none,0,0⟩,⟨none,0,0⟩,⟨none,0,0⟩,⟨none,0,0⟩,⟨none,0,0⟩,⟨none,0,0⟩⟩ {}):=fun w' _=>⟨RdG.empty w',RdG.empty w',Rd.empty w' .i64,RdG.empty w',RdG.empty w',RdG.empty w',RdG.empty w',RdG.empty w'⟩
theorem qO0:MoOk (vV []):=⟨fun x hx=>(by cases hx),fun x hx I hI=>by
 simp [vV] at hx;subst hx;simp at hI
 rcases hI with rfl | rfl | rfl <;> exact qAv _ _ (by decide) (by decide)⟩
theorem qO1 (w:World):Calls Tryz.prog 8 #[] w fun e w'=>e=.returned (.bool true) /\ Below w.heap.size w w':=by
 obtain ⟨M,hM⟩:∃ M,vV []=M:=⟨_,rfl⟩
 have hsm:=qOw w;have e1:jT M=true:=by rw [<- hM];exact qMd
 have e2:(moE M).length=41:=by rw [<- hM];exact qMe
 have e3:qAr M M=true:=by rw [<- hM];exact qOy
 have e4:qAr M {}=false:=by rw [<- hM];exact qMf
 have e5:M.imports.length <= 1000000 /\ M.funcs.length <= 1000000:=by rw [<- hM];decide
 have e6:MoOk M:=by rw [<- hM];exact qO0
 have HSM:=hid hsm;have HM:=hid hM;have HE:=hid (And.intro e1 (And.intro e2 (And.intro e3 (And.intro e4 (And.intro e5 e6)))));clear hsm hM e1 e2 e3 e4 e5 e6;go_enter Tryz.func8,Tryz.ntmps8;go_wp2_with fail;refine HSM.out.mono ?_;rintro e w1 ⟨rfl,hs,h7,hb,hz⟩;have hrx:=qOx hs h7 (by omega);rw [HM.out] at hrx
 obtain ⟨V,hV⟩:∃ V,qI5 w.heap.size=V:=⟨_,rfl⟩
 rw [HM.out,hV];rw [hV] at hrx;have he:=fun w2 h=>qBe V M w2 h HE.out.2.2.2.2.1.1 HE.out.2.2.2.2.1.2
 have hy:=fun w2 h=>uG V M w2 h HE.out.2.2.2.2.1.1 HE.out.2.2.2.2.1.2
 have hq:=fun W w2 h h'=>qEz V W M M w2 h h'
 have hn:=fun w2 h=>qEz V ⟨⟨none,0,0⟩,⟨none,0,0⟩,⟨none,0,0⟩,⟨none,0,0⟩,⟨none,0,0⟩,⟨none,0,0⟩,⟨none,0,0⟩,⟨none,0,0⟩⟩ M {} w2 h (qMg w2)
 rw [show qQ7 M=moE M by unfold qQ7;rw [if_pos HE.out.1]] at he;simp only [HE.out.1,HE.out.2.2.1,HE.out.2.2.2.1] at hy hq hn;have HEV:=HE;obtain ⟨T,I,F,⟨th,tm,tx⟩,⟨mh,mm,mx⟩,G,E,L,C,D⟩:=M;obtain ⟨⟨ot,nt,ct⟩,⟨oi,ni,ci⟩,⟨of,nf,cf⟩,⟨og,ng,cg⟩,⟨oe,ne,ce⟩,⟨ol,nl,cl⟩,⟨oc,nc,cc⟩,⟨od,nd,cd⟩⟩:=V;simp only [MoV.cells] at he hy hq hn ⊢;have HC:Hid (Cel (w1.alloc (.cells #[.slice ot nt ct,.slice oi ni ci,.slice of nf cf,.bool th,.int .i64 tm,.int .i64 tx,.bool mh,.int .i64 mm,.int .i64 mx,.slice og ng cg,.slice oe ne ce,.slice ol nl cl,.slice oc nc cc,.slice od nd cd] 33)) w1.heap.size [.slice ot nt ct,.slice oi ni ci,.slice of nf cf,.bool th,.int .i64 tm,.int .i64 tx,.bool mh,.int .i64 mm,.int .i64 mx,.slice og ng cg,.slice oe ne ce,.slice ol nl cl,.slice oc nc cc,.slice od nd cd]):=hid (Cel.new w1 [.slice ot nt ct,.slice oi ni ci,.slice of nf cf,.bool th,.int .i64 tm,.int .i64 tx,.bool mh,.int .i64 mm,.int .i64 mx,.slice og ng cg,.slice oe ne ce,.slice ol nl cl,.slice oc nc cc,.slice od nd cd] 33);have hbx:Below w1.heap.size w1 (w1.alloc (.cells #[.slice ot nt ct,.slice oi ni ci,.slice of nf cf,.bool th,.int .i64 tm,.int .i64 tx,.bool mh,.int .i64 mm,.int .i64 mx,.slice og ng cg,.slice oe ne ce,.slice ol nl cl,.slice oc nc cc,.slice od nd cd] 33)):=Bl.alloc (Bl.refl w1) _;replace hrx:=hrx.below hbx;replace hb:=Bl.step hb hbx;have HRX:=hid hrx;have HB:=hid hb;have HEN:=hid he;have HMY:=hid hy;have HEQ:=hid hq;have HNE:=hid hn;clear hs h7 hb hz hrx he hy hq hn hV HSM hbx HEV;go_wp2_with fail;refine (HEN.out _ HRX.out).mono ?_;rintro e w2 ⟨v,rfl,hv,hb⟩;obtain ⟨bo,bc,rfl,hr⟩:=hv.rd;rw [HE.out.2.1] at hr ⊢;have HR:=hid hr;replace HRX:=hid (HRX.out.below hb);replace HC:=hid (HC.out.below (qW5 _) hb);replace HB:=hid (Bl.step HB.out hb);clear hb hv hr HEN;go_wp2_with fail;refine (qKi _ _ _ ⟨T,I,F,⟨th,tm,tx⟩,⟨mh,mm,mx⟩,G,E,L,C,D⟩ w2 HR.out HE.out.1 HE.out.2.2.2.2.2).mono ?_;rintro e w3 ⟨X,rfl,hx,hb⟩;obtain ⟨⟨otx,ntx,ctx⟩,⟨oix,nix,cix⟩,⟨ofx,nfx,cfx⟩,⟨ogx,ngx,cgx⟩,⟨oex,nex,cex⟩,⟨olx,nlx,clx⟩,⟨ocx,ncx,ccx⟩,⟨odx,ndx,cdx⟩⟩:=X;simp only [MoV.cells];have hx':Rx w3 _:=hx.more fun b hb=>hb.2;have HC3:Hid (Cel (w3.alloc (.cells #[.slice otx ntx ctx,.slice oix nix cix,.slice ofx nfx cfx,.bool th,.int .i64 tm,.int .i64 tx,.bool mh,.int .i64 mm,.int .i64 mx,.slice ogx ngx cgx,.slice oex nex cex,.slice olx nlx clx,.slice ocx ncx ccx,.slice odx ndx cdx] 33)) w3.heap.size [.slice otx ntx ctx,.slice oix nix cix,.slice ofx nfx cfx,.bool th,.int .i64 tm,.int .i64 tx,.bool mh,.int .i64 mm,.int .i64 mx,.slice ogx ngx cgx,.slice oex nex cex,.slice olx nlx clx,.slice ocx ncx ccx,.slice odx ndx cdx]):=hid (Cel.new w3 [.slice otx ntx ctx,.slice oix nix cix,.slice ofx nfx cfx,.bool th,.int .i64 tm,.int .i64 tx,.bool mh,.int .i64 mm,.int .i64 mx,.slice ogx ngx cgx,.slice oex nex cex,.slice olx nlx clx,.slice ocx ncx ccx,.slice odx ndx cdx] 33);have hbx:Below w3.heap.size w3 (w3.alloc (.cells #[.slice otx ntx ctx,.slice oix nix cix,.slice ofx nfx cfx,.bool th,.int .i64 tm,.int .i64 tx,.bool mh,.int .i64 mm,.int .i64 mx,.slice ogx ngx cgx,.slice oex nex cex,.slice olx nlx clx,.slice ocx ncx ccx,.slice odx ndx cdx] 33)):=Bl.alloc (Bl.refl w3) _;have HX:=hid (hx'.below hbx);replace HRX:=hid ((HRX.out.below hb).below hbx);replace HC:=hid ((HC.out.below (qW5 _) hb).below (qW5 _) hbx);replace HB:=hid (Bl.step (Bl.step HB.out hb) hbx);clear hb hx hx' hbx HR;obtain ⟨wx,fx,hrun,o1,o2,o3,o4,o5,o6⟩:=qI3 (P:=Tryz.prog) 37 5 Tryz.underlying37 Tryz.underlying5 ((w3.alloc (.cells #[.slice otx ntx ctx,.slice oix nix cix,.slice ofx nfx cfx,.bool th,.int .i64 tm,.int .i64 tx,.bool mh,.int .i64 mm,.int .i64 mx,.slice ogx ngx cgx,.slice oex nex cex,.slice olx nlx clx,.slice ocx ncx ccx,.slice odx ndx cdx] 33)).alloc (.cells #[.int .u8 120] 5)) (w3.heap.size + 1) 1 1 #[.int .u8 120] (0,0) (by have:=heap_alloc_new (w3.alloc (.cells #[.slice otx ntx ctx,.slice oix nix cix,.slice ofx nfx cfx,.bool th,.int .i64 tm,.int .i64 tx,.bool mh,.int .i64 mm,.int .i64 mx,.slice ogx ngx cgx,.slice oex nex cex,.slice olx nlx clx,.slice ocx ncx ccx,.slice odx ndx cdx] 33)) (.cells #[.int .u8 120] 5 (0,0));simpa using this);have hrd:Rd .u8 wx (some ⟨w3.heap.size + 1,0,none⟩) 1 1 [120]:=qRm .u8 [120] o6 (by decide) (by decide)
 have hbx:Below (w3.alloc (.cells #[.slice otx ntx ctx,.slice oix nix cix,.slice ofx nfx cfx,.bool th,.int .i64 tm,.int .i64 tx,.bool mh,.int .i64 mm,.int .i64 mx,.slice ogx ngx cgx,.slice oex nex cex,.slice olx nlx clx,.slice ocx ncx ccx,.slice odx ndx cdx] 33)).heap.size (w3.alloc (.cells #[.slice otx ntx ctx,.slice oix nix cix,.slice ofx nfx cfx,.bool th,.int .i64 tm,.int .i64 tx,.bool mh,.int .i64 mm,.int .i64 mx,.slice ogx ngx cgx,.slice oex nex cex,.slice olx nlx clx,.slice ocx ncx ccx,.slice odx ndx cdx] 33)) wx:=⟨o1,o2,o3,by simp at o4 ⊢;omega,fun k hk=>(o5 k (by simp at hk;omega)).trans (Below.heap_alloc _ _ _ hk)⟩
 replace HRX:=hid (HRX.out.below hbx);replace HX:=hid (HX.out.below hbx);replace HC:=hid (HC.out.below (qW5 _) hbx);replace HC3:=hid (HC3.out.below (qW5 _) hbx);replace HB:=hid (Bl.step HB.out hbx);have HRD:=hid hrd;clear hbx hrd o1 o2 o3 o4 o5 o6;go_wp2_with fail;refine (qKj _ _ _ [120] wx HRD.out (by decide)).mono ?_;rintro e w4 ⟨rfl,hb⟩;replace HRX:=hid (HRX.out.below hb);replace HX:=hid (HX.out.below hb);replace HC:=hid (HC.out.below (qW5 _) hb);replace HC3:=hid (HC3.out.below (qW5 _) hb);replace HB:=hid (Bl.step HB.out hb);clear hb hrun HRD;have hlt:=HC.out.lt (qW5 _);have hlt3:=HC3.out.lt (qW5 _);have a0:=HC.out.cell 0 _ rfl;have a1:=HC.out.cell 1 _ rfl;have a2:=HC.out.cell 2 _ rfl;have a3:=HC.out.cell 3 _ rfl;have a4:=HC.out.cell 4 _ rfl;have a5:=HC.out.cell 5 _ rfl;have a6:=HC.out.cell 6 _ rfl;have a7:=HC.out.cell 7 _ rfl;have a8:=HC.out.cell 8 _ rfl;have a9:=HC.out.cell 9 _ rfl;have a10:=HC.out.cell 10 _ rfl;have a11:=HC.out.cell 11 _ rfl;have a12:=HC.out.cell 12 _ rfl;have a13:=HC.out.cell 13 _ rfl;go_wp2_with fail;have hbz:Below w4.heap.size w4 (w4.alloc (.cells #[.slice none 0 0,.slice none 0 0,.slice none 0 0,.bool false,.int .i64 0,.int .i64 0,.bool false,.int .i64 0,.int .i64 0,.slice none 0 0,.slice none 0 0,.slice none 0 0,.slice none 0 0,.slice none 0 0] 33)):=Bl.alloc (Bl.refl w4) _;replace HRX:=hid (HRX.out.below hbz);replace HX:=hid (HX.out.below hbz);replace HC:=hid (HC.out.below (qW5 _) hbz);replace HC3:=hid (HC3.out.below (qW5 _) hbz);replace HB:=hid (Bl.step HB.out hbz);clear hbz hlt hlt3;refine (HMY.out _ HRX.out).mono ?_;rintro e w5 ⟨rfl,hb⟩;replace HRX:=hid (HRX.out.below hb);replace HX:=hid (HX.out.below hb);replace HC:=hid (HC.out.below (qW5 _) hb);replace HC3:=hid (HC3.out.below (qW5 _) hb);replace HB:=hid (Bl.step HB.out hb);clear hb HMY a0 a1 a2 a3 a4 a5 a6 a7 a8 a9 a10 a11 a12 a13;have a0:=HC.out.cell 0 _ rfl;have x0:=HC3.out.cell 0 _ rfl;have a1:=HC.out.cell 1 _ rfl;have x1:=HC3.out.cell 1 _ rfl;have a2:=HC.out.cell 2 _ rfl;have x2:=HC3.out.cell 2 _ rfl;have a3:=HC.out.cell 3 _ rfl;have x3:=HC3.out.cell 3 _ rfl;have a4:=HC.out.cell 4 _ rfl;have x4:=HC3.out.cell 4 _ rfl;have a5:=HC.out.cell 5 _ rfl;have x5:=HC3.out.cell 5 _ rfl;have a6:=HC.out.cell 6 _ rfl;have x6:=HC3.out.cell 6 _ rfl;have a7:=HC.out.cell 7 _ rfl;have x7:=HC3.out.cell 7 _ rfl;have a8:=HC.out.cell 8 _ rfl;have x8:=HC3.out.cell 8 _ rfl;have a9:=HC.out.cell 9 _ rfl;have x9:=HC3.out.cell 9 _ rfl;have a10:=HC.out.cell 10 _ rfl;have x10:=HC3.out.cell 10 _ rfl;have a11:=HC.out.cell 11 _ rfl;have x11:=HC3.out.cell 11 _ rfl;have a12:=HC.out.cell 12 _ rfl;have x12:=HC3.out.cell 12 _ rfl;have a13:=HC.out.cell 13 _ rfl;have x13:=HC3.out.cell 13 _ rfl;go_wp2_with fail;refine (HEQ.out _ _ HRX.out HX.out).mono ?_;rintro e w6 ⟨rfl,hb⟩;replace HRX:=hid (HRX.out.below hb);replace HX:=hid (HX.out.below hb);replace HC:=hid (HC.out.below (qW5 _) hb);replace HC3:=hid (HC3.out.below (qW5 _) hb);replace HB:=hid (Bl.step HB.out hb);clear hb HEQ a0 x0 a1 x1 a2 x2 a3 x3 a4 x4 a5 x5 a6 x6 a7 x7 a8 x8 a9 x9 a10 x10 a11 x11 a12 x12 a13 x13;have a0:=HC.out.cell 0 _ rfl;have a1:=HC.out.cell 1 _ rfl;have a2:=HC.out.cell 2 _ rfl;have a3:=HC.out.cell 3 _ rfl;have a4:=HC.out.cell 4 _ rfl;have a5:=HC.out.cell 5 _ rfl;have a6:=HC.out.cell 6 _ rfl;have a7:=HC.out.cell 7 _ rfl;have a8:=HC.out.cell 8 _ rfl;have a9:=HC.out.cell 9 _ rfl;have a10:=HC.out.cell 10 _ rfl;have a11:=HC.out.cell 11 _ rfl;have a12:=HC.out.cell 12 _ rfl;have a13:=HC.out.cell 13 _ rfl;go_wp2_with fail;refine (HNE.out _ HRX.out).mono ?_;rintro e w7 ⟨rfl,hb⟩;replace HB:=hid (Bl.step HB.out hb);clear hb HNE HRX HX HC HC3 a0 a1 a2 a3 a4 a5 a6 a7 a8 a9 a10 a11 a12 a13;go_wp2_with fail;have henc:=qBe ⟨⟨none,0,0⟩,⟨none,0,0⟩,⟨none,0,0⟩,⟨none,0,0⟩,⟨none,0,0⟩,⟨none,0,0⟩,⟨none,0,0⟩,⟨none,0,0⟩⟩ {} w7 (qMg w7) (by decide) (by decide);rw [qJ7] at henc;have HENC:=hid henc;clear henc;refine HENC.out.mono ?_;rintro e w8 ⟨v,rfl,hv,hb⟩;obtain ⟨ho,hc,rfl,hr⟩:=hv.rd;rw [show yX.length=8 from rfl];replace HB:=hid (Bl.step HB.out hb);clear hb hv hr HENC;go_wp2_with fail;have hc8:Cel (w8.alloc (.cells #[.int .i64 0] 3)) w8.heap.size [.int .i64 0]:=Cel.new w8 [.int .i64 0] 3;have hmf:=uG ⟨⟨none,0,0⟩,⟨none,0,0⟩,⟨some ⟨w8.heap.size,0,none⟩,1,1⟩,⟨none,0,0⟩,⟨none,0,0⟩,⟨none,0,0⟩,⟨none,0,0⟩,⟨none,0,0⟩⟩ { funcs:=[0] } (w8.alloc (.cells #[.int .i64 0] 3)) (fun w' h'=>⟨RdG.empty w',RdG.empty w',Cel.rd (xs:=[0]) (hc8.same (h' _ (by simp))) (by decide) (by decide),RdG.empty w',RdG.empty w',RdG.empty w',RdG.empty w',RdG.empty w'⟩) (by decide) (by decide);rw [qOz] at hmf;replace HB:=hid (Bl.alloc HB.out (.cells #[.int .i64 0] 3));have HMF:=hid hmf;clear hmf hc8;refine HMF.out.mono ?_;rintro e w9 ⟨rfl,hb⟩;replace HB:=hid (Bl.step HB.out hb);clear hb HMF;go_wp2_with fail;go_ret;exact ⟨rfl,HB.out⟩
end Go.Proofs.YtbkofpljchkkaaaGreat
