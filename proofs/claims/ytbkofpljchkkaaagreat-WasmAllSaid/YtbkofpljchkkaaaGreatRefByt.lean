/- Words: RefByt. -/
import Derived.Deep.Cut
import Derived.Deep.CutRange
import Derived.Deep.RegionLaw
import Derived.Test.YtbkofpljchkkaaaGreatRefLat
import Derived.Test.YtbkofpljchkkaaaGreatSpineK
import Derived.Test.YtbkofpljchkkaaaGreatRefLim
import Derived.Test.YtbkofpljchkkaaaGreatRefByM
import Derived.Test.YtbkofpljchkkaaaGreatSpine
import Derived.Test.YtbkofpljchkkaaaGreatWB
import Derived.Test.YtbkofpljchkkaaaGreatKE
set_option maxRecDepth 100000
set_option maxHeartbeats 8000000
namespace Go.Proofs.YtbkofpljchkkaaaGreat
open Go.RowKit
theorem qCm (l:List Int):(qT kE l).length <= 10 + l.length:=by
 have h1:=qM kE l 1 (fun x _=>qW8 _);have h2:=qE 9 (l.length:Int);unfold qT;rw [qW7];omega
theorem qR1 (w:World) (cs:Array Value) (t:TypeId):Kp [(w.heap.size,.cells cs t (0,0))] (w.alloc (.cells cs t)):=by
 intro p hp;rw [List.mem_singleton] at hp;subst hp;exact heap_alloc_new w _
theorem qAo {q:Nat} {cs:Array Value} {t:TypeId} {w:World} (h:Kp [(q,.cells cs t (0,0))] w) (j:Nat) (v:Value) (hv:cs[j]?=some v):w.cell? ⟨q,0 + j,none⟩=some v:=by
 have h1:=h _ (List.mem_singleton.2 rfl);simp only at h1;simp [World.cell?,h1,hv]
theorem qEb (s:ByteArray) (h:s.size <= 16):(nmE s).length <= 100:=by
 have h1:=qE 9 ((nb s).length:Int);unfold nmE szE;rw [qW7];have:=qA9 s;omega
theorem qR2 (s:ByteArray) (h:1 <= s.size):2 <= (nmE s).length:=by
 have h1:1 <= (qZ 9 ((nb s).length:Int)).length:=by rw [qZ];split <;> simp
 unfold nmE szE;rw [qW7];have:=qA9 s;omega
theorem qTq (x:MIm) (h:xD x=true):(imE x).length <= 100010000:=by
 unfold xD zF at h;simp only [qXi,decide_eq_true_eq] at h;have h1:=qEb x.mod h.1.1.1.2;have h2:=qEb x.name h.1.2.1.2;have h3:=qHt x.typ;unfold imE;simp only [qW7,qXg];omega
theorem qQ8 (x:Int) (_:jQ x=true):(jG x).length <= 100010000:=by have:=qHt x;omega
theorem qTr (x:MGl) (_:yY x=true):(glE x).length <= 100010000:=by
 have:=yC x.kind x.n;unfold glE;simp only [qXg];omega
theorem qTs (x:MEx) (h:xM x=true):(exE x).length <= 100010000:=by
 unfold xM zF at h;simp only [qXi,decide_eq_true_eq] at h;have h1:=qEb x.name h.1.1.2;have h3:=qHt x.fn;unfold exE;simp only [qW7,qXg];omega
theorem qJp (x:MLi):(liE x).length <= 100:=by
 have h1:=qHt x.mn;have h2:=qHt x.mx;unfold liE;split <;> simp only [qW7,qXg] <;> omega
theorem qIl (x:MLi):(qL 4 taE (jB x)).length <= 1000000000:=by
 have h:=yF 4 taE (jB x);have h2:=qJp x
 have h3:((jB x).flatMap taE).length <= 101:=by
  unfold jB;split <;> simp [taE];omega
 omega
theorem qIm (x:MLi):(qL 5 liE (jB x)).length <= 1000000000:=by
 have h:=yF 5 liE (jB x);have h2:=qJp x
 have h3:((jB x).flatMap liE).length <= 101:=by
  unfold jB;split <;> simp;omega
 omega
theorem qIn {α:Type} (id:Int) (f:α -> List Int) (may:α -> Bool) (X:List α) (hX:X.length <= 32) (h:X.all may=true) (hm:∀ x,may x=true -> (f x).length <= 100010000):(qL id f X).length <= 4000000000:=by
 have h1:=yF id f X;have h2:=qM f X 100010000 fun x hx=>hm x (qXb.1 h x hx);have h3:X.length * 100010000 <= 32 * 100010000:=qXl _ hX;omega
theorem qN6 {M:MMo} (hc:qF0 M=true) (hp:qV M=true):(qL 9 elE M.elems ++ (qL 10 coE M.codes ++ qL 11 daE M.datas)).length <= 12000000000:=by
 simp only [qF0,qV,qXi,decide_eq_true_eq] at hc hp;have h1:=qIn 9 elE zT M.elems hc.1.1.2 hp.1.1.2 qMh;have h2:=qIn 10 coE zM M.codes hc.1.2 hp.1.2 qIt;have h3:=qIn 11 daE zG M.datas hc.2 hp.2 qOf;rw [qW7,qW7];omega
theorem qTt (x:MTy) (h:xL x=true):(tyE x).length <= 100010000:=by
 unfold xL at h;simp only [qXi,decide_eq_true_eq] at h;have h1:=qCm x.ps;have h2:=qCm x.rs;unfold tyE;simp only [qXg,qW7];omega
theorem qIo (V:MoV) (M:MMo) (w:World) (h:Rx w (MoR V M)) (hc:qF0 M=true) (hp:qV M=true) :
    Calls Tryz.prog 16 #[.agg (V.cells M).toArray] w fun e w'=>∃ v,e=.returned v /\ Own 5 .u8 w.heap.size w' v (moE M) /\ Below w.heap.size w w':=by
 have HH:=hid h
 have HHc:=hid hc
 have HHp:=hid hp
 obtain ⟨⟨ot,nt,ct⟩,⟨oi,ni,ci⟩,⟨of,nf,cf⟩,⟨og,ng,cg⟩,⟨oe,ne,ce⟩,⟨ol,nl,cl⟩,⟨oc,nc,cc⟩,⟨od,nd,cd⟩⟩:=V
 obtain ⟨T,I,F,⟨th,tm,tx⟩,⟨mh,mm,mx⟩,G,E,L,C,D⟩:=M
 simp only [qF0,qV,qXi,decide_eq_true_eq] at hc hp
 obtain ⟨⟨⟨⟨⟨⟨⟨hcT,hcI⟩,hcF⟩,hcG⟩,hcE⟩,hcL⟩,hcC⟩,hcD⟩:=hc
 obtain ⟨⟨⟨⟨⟨⟨⟨⟨⟨hpT,hpI⟩,hpF⟩,hpt⟩,hpm⟩,hpG⟩,hpE⟩,hpL⟩,hpC⟩,hpD⟩:=hp
 simp only [MoV.cells]
 have HQt:Hid (Rx w fun w=>RdG 2 TyR w ot nt ct T):=hid (h.imp fun _ h=>h.t)
 have HLt:Hid (T.length=nt):=hid h.now.t.len
 have hnt:nt <= 32:=by rw [<- HLt.out];omega
 have HPt:=hid hpT
 have HQi:Hid (Rx w fun w=>RdG 3 ImR w oi ni ci I):=hid (h.imp fun _ h=>h.i)
 have HLi:Hid (I.length=ni):=hid h.now.i.len
 have hni:ni <= 32:=by rw [<- HLi.out];omega
 have HPi:=hid hpI
 have HQf:Hid (Rd .i64 w of nf cf F):=hid h.now.f
 have HLf:Hid (F.length=nf):=hid h.now.f.len
 have hnf:nf <= 32:=by rw [<- HLf.out];omega
 have HPf:=hid hpF
 have HQg:Hid (Rx w fun w=>RdG 3 GlR w og ng cg G):=hid (h.imp fun _ h=>h.g)
 have HLg:Hid (G.length=ng):=hid h.now.g.len
 have hng:ng <= 32:=by rw [<- HLg.out];omega
 have HPg:=hid hpG
 have HQe:Hid (Rx w fun w=>RdG 2 ExR w oe ne ce E):=hid (h.imp fun _ h=>h.e)
 have HLe:Hid (E.length=ne):=hid h.now.e.len
 have hne:ne <= 32:=by rw [<- HLe.out];omega
 have HPe:=hid hpE
 have hb0:Below w.heap.size w (w.alloc (.cells #[.slice ot nt ct,.slice oi ni ci,.slice of nf cf,.bool th,.int .i64 tm,.int .i64 tx,.bool mh,.int .i64 mm,.int .i64 mx,.slice og ng cg,.slice oe ne ce,.slice ol nl cl,.slice oc nc cc,.slice od nd cd] 33)):=Bl.alloc (Bl.refl w) _
 have hx0:=Cel.new w [.slice ot nt ct,.slice oi ni ci,.slice of nf cf,.bool th,.int .i64 tm,.int .i64 tx,.bool mh,.int .i64 mm,.int .i64 mx,.slice og ng cg,.slice oe ne ce,.slice ol nl cl,.slice oc nc cc,.slice od nd cd] 33
 have hz0:(w.alloc (.cells #[.slice ot nt ct,.slice oi ni ci,.slice of nf cf,.bool th,.int .i64 tm,.int .i64 tx,.bool mh,.int .i64 mm,.int .i64 mx,.slice og ng cg,.slice oe ne ce,.slice ol nl cl,.slice oc nc cc,.slice od nd cd] 33)).heap.size=w.heap.size + 1:=by simp
 obtain ⟨w0,hw0⟩:∃ w0,w.alloc (.cells #[.slice ot nt ct,.slice oi ni ci,.slice of nf cf,.bool th,.int .i64 tm,.int .i64 tx,.bool mh,.int .i64 mm,.int .i64 mx,.slice og ng cg,.slice oe ne ce,.slice ol nl cl,.slice oc nc cc,.slice od nd cd] 33)=w0:=⟨_,rfl⟩
 have hx1:Cel w0 w.heap.size [.slice ot nt ct,.slice oi ni ci,.slice of nf cf,.bool th,.int .i64 tm,.int .i64 tx,.bool mh,.int .i64 mm,.int .i64 mx,.slice og ng cg,.slice oe ne ce,.slice ol nl cl,.slice oc nc cc,.slice od nd cd]:=by rw [<- hw0];exact hx0
 rw [hw0] at hb0 hz0
 have HB0:=hid hb0
 have HX0:=hid hx1
 have HZ0:=hid hz0
 have HW0:=hid hw0
 clear h hcT hcI hcF hcG hcE hcL hcD hcC hpT hpI hpF hpG hpE hpL hpC hpD hb0 hx0 hx1 hz0 hw0
 go_enter Tryz.func16,Tryz.ntmps16
 go_wp2_with fail
 rw [HW0.out]
 have hown:Own 5 .u8 w0.heap.size (w0.alloc (.cells #[.int .u8 0,.int .u8 97,.int .u8 115,.int .u8 109,.int .u8 1,.int .u8 0,.int .u8 0,.int .u8 0] 5)) (.slice (some ⟨w.heap.size + 1,0,none⟩) 8 8) yX:=by
  have:=jK w0 .u8 5 yX (by unfold maxLen yX;simp) (fun z hz=>by simp [yX] at hz;rcases hz with rfl | rfl | rfl | rfl | rfl | rfl <;> decide);rw [show (⟨w0.heap.size,0,none⟩:Addr)=⟨w.heap.size + 1,0,none⟩ by rw [HZ0.out]] at this;exact this
 obtain ⟨ws,hws⟩:∃ ws,w0.alloc (.cells #[.int .u8 0,.int .u8 97,.int .u8 115,.int .u8 109,.int .u8 1,.int .u8 0,.int .u8 0,.int .u8 0] 5)=ws:=⟨_,rfl⟩
 rw [hws] at hown ⊢
 have HB:Hid (Below w0.heap.size w0 ws):=hid (by rw [<- hws];exact Bl.alloc (Bl.refl _) _)
 clear hws
 obtain ⟨bs,hbs⟩:∃ bs:List Int,bs=yX:=⟨_,rfl⟩
 rw [<- hbs] at hown
 have HBO:=hid hown
 have hbl:bs.length <= 10:=by rw [hbs];decide
 have HBS:=hid hbs
 clear hbs hown
 obtain ⟨z,hz⟩:∃ z,ws.heap.size=z:=⟨_,rfl⟩
 have hzz:w.heap.size + 1 <= z:=by have:=HB.out.size;rw [HZ0.out] at this;omega
 have HZ:=hid hz
 clear hz
 go_loopw [4,5] (fun v i wr=>∃ k:Nat,k <= nt /\ i=.int .i64 k /\ Own 5 .u8 z wr v ((T.take k).flatMap tyE) /\ Below z ws wr) (fun _ i _=>nt - (intOf i).toNat)
 case atStart=>exact ⟨0,qXf _,rfl,by simpa using Own.nil _ _ _ _,qXh _ _⟩
 case round =>
  obtain ⟨k,hkn,rfl,ho,hb⟩:=hrel;have hsr:z <= wr.heap.size:=by have:=hb.size;rw [HZ.out] at this;exact this
  have HO:=hid ho;have HBR:=hid hb;clear ho hb
  have hel:((T.take k).flatMap tyE).length <= 32 * 100010000:=by
   have h1:=qM tyE (T.take k) 100010000 (fun x hx=>qTt x (qXb.1 HPt.out x (qXs hx)));have h2:(T.take k).length <= 32:=by rw [qXu,HLt.out];omega
   exact qXk h1 (qXl 100010000 h2)
  obtain ⟨ys,hys⟩:∃ ys,ys=(T.take k).flatMap tyE:=⟨_,rfl⟩
  rw [<- hys] at HO hel;have HYS:=hid hys;clear hys;obtain ⟨yo,yc,rfl,hry⟩:=HO.out.rd
  obtain ⟨yl,hyl⟩:∃ yl,ys.length=yl:=⟨_,rfl⟩
  have HRY:=hid hry;rw [hyl] at HO HRY hel ⊢;have HYL:=hid hyl;clear hry hyl;have HX:=hid (HX0.out.keep (show w.heap.size < w0.heap.size by rw [HZ0.out];omega) (HB.out.trans (HBR.out.mono (show w0.heap.size <= z by rw [HZ0.out];omega))));have HBW:=hid (HB0.out.trans ((HB.out.trans (HBR.out.mono (show w0.heap.size <= z by rw [HZ0.out];omega))).mono (show w.heap.size <= w0.heap.size by rw [HZ0.out];omega)));have f0_0:=HX.out.cell 0 _ rfl;have l0_0:w.heap.size < wr.heap.size:=by omega
  by_cases hk:k < nt
  ·
   obtain ⟨x,hx⟩:∃ x,T[k]?=some x:=⟨T[k]'(by rw [HLt.out];omega),qW6 (by rw [HLt.out];omega)⟩
   have HMY:=hid (qXb.1 HPt.out x (qXa hx));have HTF:=hid (jI tyE T k x hx);obtain ⟨b,off,cs,rfl,hcl,hRR,hcw⟩:=RdG.elem HQt.out hx;have hbw:b < w.heap.size:=qXc w _ (hcw 0 cs[0] (qW6 (by omega)));have hcc:=fun j v hj=>(HBW.out.cell (p:=⟨b,off + k * 2 + j,none⟩) hbw).trans (hcw j v hj)
   have hwz:w.heap.size <= z:=by omega
   have hbz:b < z:=by omega
   have hpz:w.heap.size < z:=by omega
   obtain ⟨y1,y2⟩:=x;have hmy:=HMY.out;unfold xL at hmy;simp only [qXi,decide_eq_true_eq] at hmy;obtain ⟨⟨⟨hml,hmr⟩,hmk⟩,hmj⟩:=hmy;obtain ⟨a2,m2,k2,a3,m3,k3,rfl,hr2,hr3⟩:=hRR.now;have HR2:=hid hr2;have HR3:=hid hr3;have f0_1:=hcc 0 _ rfl;have f0_2:=hcc 1 _ rfl;have HE0:=hid f0_1;have HE1:=hid f0_2;have l0_1:b < wr.heap.size:=by omega
   have hm2:m2 <= 32:=by rw [<- hr2.len];exact hml
   have hm3:m3 <= 32:=by have h1:y2.length=m3:=hr3.len;have h2:y2.length <= 1:=hmr;omega
   have HMK:=hid hmk;have HMJ:=hid hmj;have hl1:=qCm y1;have hl2:=qCm y2;have hlm:y1.length <= 32:=hml;have hlr:y2.length <= 1:=hmr
   obtain ⟨us,hus⟩:∃ us,qT kE y1=us:=⟨_,rfl⟩
   obtain ⟨vs,hvs⟩:∃ vs,qT kE y2=vs:=⟨_,rfl⟩
   rw [hus] at hl1;rw [hvs] at hl2;have HUS:=hid hus;have HVS:=hid hvs;clear hcc hcw hRR hx hcl hr2 hr3 hml hmr hmk hmj hus hvs;have hz:=hsr;go_wp2_with fail;clear f0_0 f0_1 f0_2 l0_0 l0_1;refine xU (E:=5) (z:=z) (by kernel_rfl) 2 (.slice yo yl yc) (ys) (HO.out) ?hz [.is (.slice yo yl yc),.rd [96],.own (ys ++ [96]),.is ?v6x3,.is (.slice (some ⟨b,off,none⟩) nt ct),.is ?v6x5,.is ?v6x6,.is ?v6x7,.is (.slice a2 m2 k2),.rd us,.own (ys ++ [96] ++ us),.is ?v6x11,.is (.slice (some ⟨b,off,none⟩) nt ct),.is ?v6x13,.is ?v6x14,.is ?v6x15,.is (.slice a3 m3 k3),.rd vs,.own (ys ++ [96] ++ us ++ vs)] ((ys ++ [96] ++ us ++ vs)) [(2,ys),(10,(ys ++ [96])),(18,(ys ++ [96] ++ us))] [0,1,2,3,4,5,6,7,8,9,10,11,12,13,14,15,16,17,18,19] rfl (by kernel_rfl) rfl ?hop ?hok ?hla ?hfi ?hend
   case hop =>
    refine ⟨qY rfl (rq (Is (.slice yo yl yc)) none [] [(4,.slice yo yl yc)] ⟨⟨by kernel_rfl,rfl⟩,trivial⟩ ?_),?_⟩
    ·intro a w1 hCC e4
     have hC:=hCC.1;clear hCC;refine Or.inl ⟨(.slice yo yl yc),?_,rfl⟩;go_simp
     all_goals (first | rfl | (go_bits;rfl))
    refine ⟨qY rfl (rq (fcF 5 z (.rd [96])) none [] [] trivial ?_),?_⟩
    ·intro a w1 hCC
     have hC:=hCC.1;clear hCC;refine Or.inr (Or.inr ⟨.slice (some ⟨w1.heap.size,0,none⟩) 1 1,w1.alloc (.cells #[.int .u8 96] 5),?_,⟨_,_,rfl,Rd.built _ _ _ _ (by decide)⟩,Bl.alloc (Bl.refl _) _⟩);go_simp
    refine ⟨uV (o:=⟨_,_,_,_,_,_⟩) (d:=23) (sa:=21) (sb:=22) (t:=37) (j0:=0) (j1:=1) (v0:=.slice yo yl yc) (xs:=ys) rfl rfl rfl rfl Tryz.underlying37 qG (by kernel_rfl) (by kernel_rfl) (by kernel_rfl) (by kernel_rfl) rfl rfl rfl (.inl rfl) rfl (by (try simp only [qW7]);(try simp only [qXg,qXq]);rw [HYL.out];omega) (fun w h=>qXk hz h.1.size) (fun w h=>h.2 rfl) (qFv rfl),?_⟩;refine ⟨qY rfl (rq (Is ?v6x3) none [] [(1,.pointer (some ⟨w.heap.size,0,none⟩))] ⟨⟨by kernel_rfl,rfl⟩,trivial⟩ ?_),?_⟩
    ·intro a w1 hCC e1
     have hC:=hCC.1;clear hCC;refine Or.inl ⟨_,?_,rfl⟩;go_simp
     all_goals (first | (go_bits;rfl) | rfl | (rw [if_pos (by omega)]))
    refine ⟨qY rfl (rq (Is (.slice (some ⟨b,off,none⟩) nt ct)) none [(some 24,Is ?v6x3)] [] trivial ?_),?_⟩
    ·intro a w1 hCC (h3:a.tmps.getD 24 undef=_)
     have hC:=hCC.1;clear hCC;refine Or.inl ⟨.slice (some ⟨b,off,none⟩) nt ct,?_,rfl⟩;have f0:=(hC.cell (p:=⟨w.heap.size,0,none⟩) hpz).trans (HX.out.cell 0 _ rfl)
     try simp only [qXd] at f0
     go_simp
    refine ⟨qY rfl (rq (Is ?v6x5) none [] [(5,.int .i64 k)] ⟨⟨by kernel_rfl,rfl⟩,trivial⟩ ?_),?_⟩
    ·intro a w1 hCC e5
     have hC:=hCC.1;clear hCC;refine Or.inl ⟨_,?_,rfl⟩;go_simp
     all_goals (first | (go_bits;rfl) | rfl | (rw [if_pos (by omega)]))
    refine ⟨qY rfl (rq (Is ?v6x6) none [(some 25,Is (.slice (some ⟨b,off,none⟩) nt ct)),(some 26,Is ?v6x5)] [] trivial ?_),?_⟩
    ·intro a w1 hCC (h4:a.tmps.getD 25 undef=_) (h5:a.tmps.getD 26 undef=_)
     have hC:=hCC.1;clear hCC;refine Or.inl ⟨_,?_,rfl⟩;go_simp
     all_goals (first | (go_bits;rfl) | rfl | (rw [if_pos (by omega)]))
    refine ⟨qY rfl (rq (Is ?v6x7) none [(some 27,Is ?v6x6)] [] trivial ?_),?_⟩
    ·intro a w1 hCC (h6:a.tmps.getD 27 undef=_)
     have hC:=hCC.1;clear hCC;refine Or.inl ⟨_,?_,rfl⟩;go_simp
     all_goals (first | (go_bits;rfl) | rfl | (rw [if_pos (by omega)]))
    refine ⟨qY rfl (rq (Is (.slice a2 m2 k2)) none [(some 28,Is ?v6x7)] [] trivial ?_),?_⟩
    ·intro a w1 hCC (h7:a.tmps.getD 28 undef=_)
     have hC:=hCC.1;clear hCC;refine Or.inl ⟨.slice a2 m2 k2,?_,rfl⟩;have f0:=(hC.cell (p:=⟨b,off + k * 2 + 0,none⟩) hbz).trans (HE0.out)
     try simp only [qXd] at f0
     go_simp
    refine ⟨qY rfl (rq (fcF 5 z (.rd us)) none [(some 29,Is (.slice a2 m2 k2)),(some 23,fun _ _=>True)] [] trivial ?_),?_⟩
    ·intro a w1 hCC (h8:a.tmps.getD 29 undef=_) _
     have hC:=hCC.1;clear hCC;refine Or.inr (Or.inl ⟨49,#[.slice a2 m2 k2],?_,?_⟩)
     ·go_simp
     ·refine (qDf a2 m2 k2 y1 w1 (HR2.out.below (HBW.out.trans (hC.mono hwz))) (qXk hm2 (by decide)) HMK.out).mono ?_
      rintro e w2 ⟨vv,rfl,hown,hbel⟩;rw [HUS.out] at hown;obtain ⟨ao1,cap1,rfl,hrd⟩:=hown.rd;exact ⟨_,rfl,⟨ao1,cap1,rfl,hrd⟩,hbel⟩
    refine ⟨xG (o:=⟨_,_,_,_,_,_⟩) (d:=31) (sa:=23) (sb:=30) (t:=37) (j0:=2) (j1:=9) rfl rfl rfl rfl Tryz.underlying37 qG (by kernel_rfl) (by kernel_rfl) (by kernel_rfl) (by kernel_rfl) rfl rfl rfl (.inl rfl) rfl (by (try simp only [qW7]);(try simp only [qXg,qXq]);rw [HYL.out];omega) (fun w h=>qXk hz h.1.size) (qAq rfl),?_⟩;refine ⟨qY rfl (rq (Is ?v6x11) none [] [(1,.pointer (some ⟨w.heap.size,0,none⟩))] ⟨⟨by kernel_rfl,rfl⟩,trivial⟩ ?_),?_⟩
    ·intro a w1 hCC e1
     have hC:=hCC.1;clear hCC;refine Or.inl ⟨_,?_,rfl⟩;go_simp
     all_goals (first | (go_bits;rfl) | rfl | (rw [if_pos (by omega)]))
    refine ⟨qY rfl (rq (Is (.slice (some ⟨b,off,none⟩) nt ct)) none [(some 32,Is ?v6x11)] [] trivial ?_),?_⟩
    ·intro a w1 hCC (h11:a.tmps.getD 32 undef=_)
     have hC:=hCC.1;clear hCC;refine Or.inl ⟨.slice (some ⟨b,off,none⟩) nt ct,?_,rfl⟩;have f0:=(hC.cell (p:=⟨w.heap.size,0,none⟩) hpz).trans (HX.out.cell 0 _ rfl)
     try simp only [qXd] at f0
     go_simp
    refine ⟨qY rfl (rq (Is ?v6x13) none [] [(5,.int .i64 k)] ⟨⟨by kernel_rfl,rfl⟩,trivial⟩ ?_),?_⟩
    ·intro a w1 hCC e5
     have hC:=hCC.1;clear hCC;refine Or.inl ⟨_,?_,rfl⟩;go_simp
     all_goals (first | (go_bits;rfl) | rfl | (rw [if_pos (by omega)]))
    refine ⟨qY rfl (rq (Is ?v6x14) none [(some 33,Is (.slice (some ⟨b,off,none⟩) nt ct)),(some 34,Is ?v6x13)] [] trivial ?_),?_⟩
    ·intro a w1 hCC (h12:a.tmps.getD 33 undef=_) (h13:a.tmps.getD 34 undef=_)
     have hC:=hCC.1;clear hCC;refine Or.inl ⟨_,?_,rfl⟩;go_simp
     all_goals (first | (go_bits;rfl) | rfl | (rw [if_pos (by omega)]))
    refine ⟨qY rfl (rq (Is ?v6x15) none [(some 35,Is ?v6x14)] [] trivial ?_),?_⟩
    ·intro a w1 hCC (h14:a.tmps.getD 35 undef=_)
     have hC:=hCC.1;clear hCC;refine Or.inl ⟨_,?_,rfl⟩;go_simp
     all_goals (first | (go_bits;rfl) | rfl | (rw [if_pos (by omega)]))
    refine ⟨qY rfl (rq (Is (.slice a3 m3 k3)) none [(some 36,Is ?v6x15)] [] trivial ?_),?_⟩
    ·intro a w1 hCC (h15:a.tmps.getD 36 undef=_)
     have hC:=hCC.1;clear hCC;refine Or.inl ⟨.slice a3 m3 k3,?_,rfl⟩;have f0:=(hC.cell (p:=⟨b,off + k * 2 + 1,none⟩) hbz).trans (HE1.out)
     try simp only [qXd] at f0
     go_simp
    refine ⟨qY rfl (rq (fcF 5 z (.rd vs)) none [(some 37,Is (.slice a3 m3 k3)),(some 31,fun _ _=>True)] [] trivial ?_),?_⟩
    ·intro a w1 hCC (h16:a.tmps.getD 37 undef=_) _
     have hC:=hCC.1;clear hCC;refine Or.inr (Or.inl ⟨49,#[.slice a3 m3 k3],?_,?_⟩)
     ·go_simp
     ·refine (qDf a3 m3 k3 y2 w1 (HR3.out.below (HBW.out.trans (hC.mono hwz))) (qXk hm3 (by decide)) HMJ.out).mono ?_
      rintro e w2 ⟨vv,rfl,hown,hbel⟩;rw [HVS.out] at hown;obtain ⟨ao1,cap1,rfl,hrd⟩:=hown.rd;exact ⟨_,rfl,⟨ao1,cap1,rfl,hrd⟩,hbel⟩
    refine ⟨xG (o:=⟨_,_,_,_,_,_⟩) (d:=39) (sa:=31) (sb:=38) (t:=37) (j0:=10) (j1:=17) rfl rfl rfl rfl Tryz.underlying37 qG (by kernel_rfl) (by kernel_rfl) (by kernel_rfl) (by kernel_rfl) rfl rfl rfl (.inl rfl) rfl (by (try simp only [qW7]);(try simp only [qXg,qXq]);rw [HYL.out];omega) (fun w h=>qXk hz h.1.size) (qAq rfl),?_⟩;refine ⟨qY rfl (rq (fcF 5 z (.own (ys ++ [96] ++ us ++ vs))) none [(some 39,fcF 5 z (.own (ys ++ [96] ++ us ++ vs))),(some 39,fcF 5 z (.own (ys ++ [96] ++ us ++ vs))),(some 21,fun _ _=>True),(some 22,fun _ _=>True),(some 23,fun _ _=>True),(some 24,fun _ _=>True),(some 25,fun _ _=>True),(some 26,fun _ _=>True),(some 27,fun _ _=>True),(some 28,fun _ _=>True),(some 29,fun _ _=>True),(some 30,fun _ _=>True),(some 31,fun _ _=>True),(some 32,fun _ _=>True),(some 33,fun _ _=>True),(some 34,fun _ _=>True),(some 35,fun _ _=>True),(some 36,fun _ _=>True),(some 37,fun _ _=>True),(some 38,fun _ _=>True),(some 39,fcF 5 z (.own (ys ++ [96] ++ us ++ vs)))] [] trivial ?_),?_⟩
    ·intro a w1 hCC h18 h18 _ _ _ _ _ _ _ _ _ _ _ _ _ _ _ _ _ _ h18
     have hC:=hCC.1;clear hCC;refine Or.inl ⟨_,?_,h18⟩;go_simp
     all_goals simp [zZ]
    exact trivial
   case hz=>exact hz
   case hok=>kernel_rfl
   case hla=>kernel_rfl
   case hfi=>kernel_rfl
   case hend =>
    intro w1 hC;rintro _ rfl;intro x1 _;intro x2 _;rintro _ rfl;rintro _ rfl;rintro _ rfl;rintro _ rfl;rintro _ rfl;rintro _ rfl;intro x9 _;intro x10 _;rintro _ rfl;rintro _ rfl;rintro _ rfl;rintro _ rfl;rintro _ rfl;rintro _ rfl;intro x17 _;intro x18 _;intro xf hf;simp only [xV,Act.put,qXj,qXp,qXo];have HO5:=hid hf;have HB5:=hid hC
    have hfin:(T.take (k + 1)).flatMap tyE=ys ++ [96] ++ us ++ vs:=by
     rw [HTF.out,<- HYS.out,tyE,HUS.out,HVS.out];simp
    have HFIN:=hid hfin;clear hfin;go_wp2_with fail;go_roundw
    case rel=>exact ⟨k + 1,by omega,by go_num,by rw [HFIN.out];exact HO5.out,HBR.out.trans HB5.out⟩
    case measure=>simp [intOf];omega
  ·
   have e0:k=nt:=by omega
   subst e0;rw [qW9 (by rw [HLt.out];exact qW8 _)] at HYS;go_wp2_with fail;have hss:T.length <= 32:=by rw [HLt.out];omega
   refine (jO 1 (by decide) _ yo yl yc ys wr (by omega) HRY.out (by omega)).mono ?_;rintro e w5 ⟨v5,rfl,h5,b5⟩;rw [qAe 1 tyE T _ ys HLt.out HYS.out] at h5;have hsl:=yF 1 tyE T;rw [<- HYS.out,HYL.out] at hsl
   obtain ⟨tt,htt⟩:∃ q,qL 1 tyE T=q:=⟨_,rfl⟩
   rw [htt] at h5 hsl;have HTt:=hid htt;obtain ⟨so,sc,rfl,hrs⟩:=h5.rd;have HRS:=hid hrs;have h56:=b5.size;have hz5:w0.heap.size <= w5.heap.size:=by have:=HB.out.size;have:=HZ.out;omega
   have HB5:=hid (HB.out.trans ((HBR.out.trans (b5.mono hsr)).mono (show w0.heap.size <= z by have:=HB.out.size;rw [HZ.out] at this;exact this)));have HBO5:=hid ((HBO.out.below (HBR.out.trans (b5.mono hsr)) (by rw [HZ.out];exact qW8 _)));clear h5 b5 htt hrs
   go_wp2_with (at_builtin;refine qA rfl (.tmp 40) (.tmp 45) 37 rfl 5 .u8 w0.heap.size 1 Tryz.underlying37 qG _ bs rfl HBO5.out so _ sc tt rfl HRS.out (by omega) (by omega) hz5 ?_;intro v6 w6 o6 b6 _;have HO6:=hid o6;have HB6:=hid b6;clear o6 b6)
   have HBn:=hid (HB5.out.trans HB6.out);have hbn:(bs ++ tt).length <= 10 + 1 * 4000000000:=by rw [qW7];omega
   obtain ⟨bs2,hbs2⟩:∃ q,bs ++ tt=q:=⟨_,rfl⟩
   rw [hbs2] at HO6 hbn;have HCt:=hid hbs2;clear hbs2 HB5 HBO5 HB6 HRS h56 hz5 hsl hss f0_0 l0_0 HX HBW HRY HYL HO HYS hel HBR hsr HZ hzz HB HBO hkn hk hbl
   obtain ⟨wo,rfl⟩:∃ wo:World,wo=ws:=⟨_,rfl⟩
   obtain ⟨wo2,rfl⟩:∃ wo:World,wo=wr:=⟨_,rfl⟩
   obtain ⟨zo,rfl⟩:∃ q:Nat,q=z:=⟨_,rfl⟩
   obtain ⟨bst,rfl⟩:∃ q:List Int,q=bs:=⟨_,rfl⟩
   obtain ⟨ws,rfl⟩:∃ q:World,q=w6:=⟨_,rfl⟩
   obtain ⟨bs,rfl⟩:∃ q:List Int,q=bs2:=⟨_,rfl⟩
   have HB:=HBn;have HBO:=HO6;have hbl:=hbn;clear HBn HO6 hbn;go_wp2_with fail
   obtain ⟨z,hz⟩:∃ z,ws.heap.size=z:=⟨_,rfl⟩
   have hzz:w.heap.size + 1 <= z:=by have:=HB.out.size;rw [HZ0.out] at this;omega
   have HZ:=hid hz;clear hz;go_loopw [4,6] (fun v i wr=>∃ k:Nat,k <= ni /\ i=.int .i64 k /\ Own 5 .u8 z wr v ((I.take k).flatMap imE) /\ Below z ws wr) (fun _ i _=>ni - (intOf i).toNat)
   case atStart=>exact ⟨0,qXf _,rfl,by simpa using Own.nil _ _ _ _,qXh _ _⟩
   case round =>
    obtain ⟨k,hkn,rfl,ho,hb⟩:=hrel;have hsr:z <= wr.heap.size:=by have:=hb.size;rw [HZ.out] at this;exact this
    have HO:=hid ho;have HBR:=hid hb;clear ho hb
    have hel:((I.take k).flatMap imE).length <= 32 * 100010000:=by
     have h1:=qM imE (I.take k) 100010000 (fun x hx=>qTq x (qXb.1 HPi.out x (qXs hx)));have h2:(I.take k).length <= 32:=by rw [qXu,HLi.out];omega
     exact qXk h1 (qXl 100010000 h2)
    obtain ⟨ys,hys⟩:∃ ys,ys=(I.take k).flatMap imE:=⟨_,rfl⟩
    rw [<- hys] at HO hel;have HYS:=hid hys;clear hys;obtain ⟨yo,yc,rfl,hry⟩:=HO.out.rd
    obtain ⟨yl,hyl⟩:∃ yl,ys.length=yl:=⟨_,rfl⟩
    have HRY:=hid hry;rw [hyl] at HO HRY hel ⊢;have HYL:=hid hyl;clear hry hyl;have HX:=hid (HX0.out.keep (show w.heap.size < w0.heap.size by rw [HZ0.out];omega) (HB.out.trans (HBR.out.mono (show w0.heap.size <= z by rw [HZ0.out];omega))));have HBW:=hid (HB0.out.trans ((HB.out.trans (HBR.out.mono (show w0.heap.size <= z by rw [HZ0.out];omega))).mono (show w.heap.size <= w0.heap.size by rw [HZ0.out];omega)));have f0_0:=HX.out.cell 1 _ rfl;have l0_0:w.heap.size < wr.heap.size:=by omega
    by_cases hk:k < ni
    ·
     obtain ⟨x,hx⟩:∃ x,I[k]?=some x:=⟨I[k]'(by rw [HLi.out];omega),qW6 (by rw [HLi.out];omega)⟩
     have HMY:=hid (qXb.1 HPi.out x (qXa hx));have HTF:=hid (jI imE I k x hx);obtain ⟨b,off,cs,rfl,hcl,hRR,hcw⟩:=RdG.elem HQi.out hx;have hbw:b < w.heap.size:=qXc w _ (hcw 0 cs[0] (qW6 (by omega)));have hcc:=fun j v hj=>(HBW.out.cell (p:=⟨b,off + k * 3 + j,none⟩) hbw).trans (hcw j v hj)
     have hwz:w.heap.size <= z:=by omega
     have hbz:b < z:=by omega
     have hpz:w.heap.size < z:=by omega
     obtain ⟨y1,y2,y3⟩:=x;have hmy:=HMY.out;unfold xD zF jQ at hmy;simp only [qXi,decide_eq_true_eq] at hmy;obtain ⟨⟨⟨⟨hn1,hn2⟩,_⟩,⟨hn3,hn4⟩,_⟩,hn5,hn6⟩:=hmy;have hcs:cs=[.string y1,.string y2,.int .i64 y3]:=hRR.now;subst hcs;have f0_1:=hcc 0 _ rfl;have f0_2:=hcc 1 _ rfl;have f0_3:=hcc 2 _ rfl;simp only [qXd] at f0_1;have l0_1:b < wr.heap.size:=by omega
     clear hcc hcw hRR hx hcl;have hl1:=qEb y1 (by omega);have hl2:=qEb y2 (by omega);have hl3:=j9 y3;have hl4:=qR2 y1 (by omega)
     obtain ⟨us,hus⟩:∃ us,nmE y1=us:=⟨_,rfl⟩
     obtain ⟨vs,hvs⟩:∃ vs,nmE y2=vs:=⟨_,rfl⟩
     obtain ⟨ws2,hws2⟩:∃ vs,jG y3=vs:=⟨_,rfl⟩
     rw [hus] at hl1 hl4;rw [hvs] at hl2;rw [hws2] at hl3;have HUS:=hid hus;have HVS:=hid hvs;have HWS:=hid hws2;clear hus hvs hws2;go_wp2_with fail;clear f0_0 f0_1 f0_2 f0_3 l0_0 l0_1
     obtain ⟨q,hq⟩:∃ q,wr.heap.size=q:=⟨_,rfl⟩
     have hkp:Kp [(q,.cells #[.string y1,.string y2,.int .i64 y3] 62 (0,0))] (wr.alloc (.cells #[.string y1,.string y2,.int .i64 y3] 62)):=by rw [<- hq];exact qR1 _ _ _
     have hkt:KpT 5 [(q,.cells #[.string y1,.string y2,.int .i64 y3] 62 (0,0))]:=by intro p hp cur f e;rw [List.mem_singleton] at hp;subst hp;cases e
     have hz:z <= (wr.alloc (.cells #[.string y1,.string y2,.int .i64 y3] 62)).heap.size:=by simp;omega
     have hoq:=HO.out.alloc (.cells #[.string y1,.string y2,.int .i64 y3] 62);have hbq:Below z wr (wr.alloc (.cells #[.string y1,.string y2,.int .i64 y3] 62)):=(Bl.alloc (Bl.refl wr) _).mono hsr;rw [hq]
     obtain ⟨wq,hwq⟩:∃ q,(wr.alloc (.cells #[.string y1,.string y2,.int .i64 y3] 62))=q:=⟨_,rfl⟩
     rw [hwq] at hkp hz hoq hbq ⊢;clear hwq;refine vI (E:=5) (z:=z) (by kernel_rfl) 4 (.slice yo yl yc) (ys) (hoq) ?hz [(q,.cells #[.string y1,.string y2,.int .i64 y3] 62 (0,0))] hkp hkt [.is (.slice yo yl yc),.is ?v13x1,.is (.string y1),.rd us,.own (ys ++ us),.is ?v13x5,.is (.string y2),.rd vs,.own (ys ++ us ++ vs),.lit wq.heap.size 0,.own (ys ++ us ++ vs ++ [0]),.is ?v13x11,.is (.int .i64 y3),.rd ws2,.own (ys ++ us ++ vs ++ [0] ++ ws2)] ((ys ++ us ++ vs ++ [0] ++ ws2)) [(4,ys),(8,(ys ++ us)),(10,(ys ++ us ++ vs)),(14,(ys ++ us ++ vs ++ [0]))] [0,1,2,3,4,5,6,7,8,9,10,11,12,13,14,15] rfl (by kernel_rfl) rfl ?hop ?hok ?hlz ?hla ?hfi ?hend
     case hop =>
      refine ⟨jJ rfl (rq (Is (.slice yo yl yc)) none [] [(4,.slice yo yl yc)] ⟨⟨by kernel_rfl,rfl⟩,trivial⟩ ?_),?_⟩
      ·intro a w1 hCC e4
       have hC:=hCC.1.1;have hD:=hCC.1.2;clear hCC;refine Or.inl ⟨(.slice yo yl yc),?_,rfl⟩;go_simp
       all_goals (first | rfl | (go_bits;rfl))
      refine ⟨jJ rfl (rq (Is ?v13x1) none [] [(7,.pointer (some ⟨q,0,none⟩))] ⟨⟨by kernel_rfl,rfl⟩,trivial⟩ ?_),?_⟩
      ·intro a w1 hCC e7
       have hC:=hCC.1.1;have hD:=hCC.1.2;clear hCC;refine Or.inl ⟨_,?_,rfl⟩;go_simp
       all_goals (first | (go_bits;rfl) | rfl | (rw [if_pos (by omega)]))
      refine ⟨jJ rfl (rq (Is (.string y1)) none [(some 60,Is ?v13x1)] [] trivial ?_),?_⟩
      ·intro a w1 hCC (h1:a.tmps.getD 60 undef=_)
       have hC:=hCC.1.1;have hD:=hCC.1.2;clear hCC;refine Or.inl ⟨.string y1,?_,rfl⟩;have f0:=qAo hD 0 _ rfl;simp only [qXd] at f0;go_simp
      refine ⟨jJ rfl (rq (fcF 5 z (.rd us)) none [(some 61,Is (.string y1))] [] trivial ?_),?_⟩
      ·intro a w1 hCC (h2:a.tmps.getD 61 undef=_)
       have hC:=hCC.1.1;have hD:=hCC.1.2;clear hCC;refine Or.inr (Or.inl ⟨51,#[.string y1],?_,?_⟩)
       ·go_simp
       ·refine (qBs y1 w1 (by omega)).mono ?_
        rintro e w2 ⟨vv,rfl,hown,hbel⟩;rw [HUS.out] at hown;obtain ⟨ao1,cap1,rfl,hrd⟩:=hown.rd;exact ⟨_,rfl,⟨ao1,cap1,rfl,hrd⟩,hbel⟩
      refine ⟨uV (o:=⟨_,_,_,_,_,_⟩) (d:=63) (sa:=59) (sb:=62) (t:=37) (j0:=0) (j1:=3) (v0:=.slice yo yl yc) (xs:=ys) rfl rfl rfl rfl Tryz.underlying37 qG (by kernel_rfl) (by kernel_rfl) (by kernel_rfl) (by kernel_rfl) rfl rfl rfl (.inl rfl) rfl (by (try simp only [qW7]);(try simp only [qXg,qXq]);rw [HYL.out];omega) (fun w h=>qXk hz h.1.1.size) (fun w h=>h.2 rfl) (qFf rfl (fun b hb=>((hoq).lt b hb).2)),?_⟩;refine ⟨jJ rfl (rq (Is ?v13x5) none [] [(7,.pointer (some ⟨q,0,none⟩))] ⟨⟨by kernel_rfl,rfl⟩,trivial⟩ ?_),?_⟩
      ·intro a w1 hCC e7
       have hC:=hCC.1.1;have hD:=hCC.1.2;clear hCC;refine Or.inl ⟨_,?_,rfl⟩;go_simp
       all_goals (first | (go_bits;rfl) | rfl | (rw [if_pos (by omega)]))
      refine ⟨jJ rfl (rq (Is (.string y2)) none [(some 64,Is ?v13x5)] [] trivial ?_),?_⟩
      ·intro a w1 hCC (h5:a.tmps.getD 64 undef=_)
       have hC:=hCC.1.1;have hD:=hCC.1.2;clear hCC;refine Or.inl ⟨.string y2,?_,rfl⟩;have f0:=qAo hD 1 _ rfl;simp only [Nat.zero_add] at f0;go_simp
      refine ⟨jJ rfl (rq (fcF 5 z (.rd vs)) none [(some 65,Is (.string y2)),(some 63,fun _ _=>True)] [] trivial ?_),?_⟩
      ·intro a w1 hCC (h6:a.tmps.getD 65 undef=_) _
       have hC:=hCC.1.1;have hD:=hCC.1.2;clear hCC;refine Or.inr (Or.inl ⟨51,#[.string y2],?_,?_⟩)
       ·go_simp
       ·refine (qBs y2 w1 (by omega)).mono ?_
        rintro e w2 ⟨vv,rfl,hown,hbel⟩;rw [HVS.out] at hown;obtain ⟨ao1,cap1,rfl,hrd⟩:=hown.rd;exact ⟨_,rfl,⟨ao1,cap1,rfl,hrd⟩,hbel⟩
      refine ⟨xG (o:=⟨_,_,_,_,_,_⟩) (d:=67) (sa:=63) (sb:=66) (t:=37) (j0:=4) (j1:=7) rfl rfl rfl rfl Tryz.underlying37 qG (by kernel_rfl) (by kernel_rfl) (by kernel_rfl) (by kernel_rfl) rfl rfl rfl (.inl rfl) rfl (by (try simp only [qW7]);(try simp only [qXg,qXq]);rw [HYL.out];omega) (fun w h=>qXk hz h.1.1.size) (qBr rfl (by (try simp only [qW7]);(try simp only [qXg,qXq]);omega)),?_⟩;refine ⟨jJ rfl (rq (fcF 5 z (.lit wq.heap.size 0)) none [] [] trivial ?_),?_⟩
      ·intro a w1 hCC
       have hC:=hCC.1.1;have hD:=hCC.1.2;clear hCC;refine Or.inr (Or.inr ⟨.slice (some ⟨w1.heap.size,0,none⟩) 1 1,w1.alloc (.cells #[.int .u8 0] 5),?_,⟨w1.heap.size,rfl,hC.size,heap_alloc_new _ _,by decide⟩,Bl.alloc (Bl.refl _) _⟩);go_simp
      refine ⟨xG (o:=⟨_,_,_,_,_,_⟩) (d:=69) (sa:=67) (sb:=68) (t:=37) (j0:=8) (j1:=9) rfl rfl rfl rfl Tryz.underlying37 qG (by kernel_rfl) (by kernel_rfl) (by kernel_rfl) (by kernel_rfl) rfl rfl rfl (.inr (.inr ⟨_,_,rfl,rfl⟩)) rfl (by (try simp only [qW7]);(try simp only [qXg,qXq]);rw [HYL.out];omega) (fun w h=>qXk hz h.1.1.size) (qBr rfl (by (try simp only [qW7]);(try simp only [qXg,qXq]);omega)),?_⟩;refine ⟨jJ rfl (rq (Is ?v13x11) none [] [(7,.pointer (some ⟨q,0,none⟩))] ⟨⟨by kernel_rfl,rfl⟩,trivial⟩ ?_),?_⟩
      ·intro a w1 hCC e7
       have hC:=hCC.1.1;have hD:=hCC.1.2;clear hCC;refine Or.inl ⟨_,?_,rfl⟩;go_simp
       all_goals (first | (go_bits;rfl) | rfl | (rw [if_pos (by omega)]))
      refine ⟨jJ rfl (rq (Is (.int .i64 y3)) none [(some 70,Is ?v13x11)] [] trivial ?_),?_⟩
      ·intro a w1 hCC (h11:a.tmps.getD 70 undef=_)
       have hC:=hCC.1.1;have hD:=hCC.1.2;clear hCC;refine Or.inl ⟨.int .i64 y3,?_,rfl⟩;have f0:=qAo hD 2 _ rfl;simp only [Nat.zero_add] at f0;go_simp
      refine ⟨jJ rfl (rq (fcF 5 z (.rd ws2)) none [(some 71,Is (.int .i64 y3)),(some 69,fun _ _=>True)] [] trivial ?_),?_⟩
      ·intro a w1 hCC (h12:a.tmps.getD 71 undef=_) _
       have hC:=hCC.1.1;have hD:=hCC.1.2;clear hCC;refine Or.inr (Or.inl ⟨52,#[.int .i64 y3],?_,?_⟩)
       ·go_simp
       ·refine (xC y3 w1 (by omega) (by omega)).mono ?_
        rintro e w2 ⟨vv,rfl,hown,hbel⟩;rw [HWS.out] at hown;obtain ⟨ao1,cap1,rfl,hrd⟩:=hown.rd;exact ⟨_,rfl,⟨ao1,cap1,rfl,hrd⟩,hbel⟩
      refine ⟨xG (o:=⟨_,_,_,_,_,_⟩) (d:=73) (sa:=69) (sb:=72) (t:=37) (j0:=10) (j1:=13) rfl rfl rfl rfl Tryz.underlying37 qG (by kernel_rfl) (by kernel_rfl) (by kernel_rfl) (by kernel_rfl) rfl rfl rfl (.inl rfl) rfl (by (try simp only [qW7]);(try simp only [qXg,qXq]);rw [HYL.out];omega) (fun w h=>qXk hz h.1.1.size) (qBr rfl (by (try simp only [qW7]);(try simp only [qXg,qXq]);omega)),?_⟩;refine ⟨jJ rfl (rq (fcF 5 z (.own (ys ++ us ++ vs ++ [0] ++ ws2))) none [(some 73,fcF 5 z (.own (ys ++ us ++ vs ++ [0] ++ ws2))),(some 73,fcF 5 z (.own (ys ++ us ++ vs ++ [0] ++ ws2))),(some 59,fun _ _=>True),(some 60,fun _ _=>True),(some 61,fun _ _=>True),(some 62,fun _ _=>True),(some 63,fun _ _=>True),(some 64,fun _ _=>True),(some 65,fun _ _=>True),(some 66,fun _ _=>True),(some 67,fun _ _=>True),(some 68,fun _ _=>True),(some 69,fun _ _=>True),(some 70,fun _ _=>True),(some 71,fun _ _=>True),(some 72,fun _ _=>True),(some 73,fcF 5 z (.own (ys ++ us ++ vs ++ [0] ++ ws2)))] [] trivial ?_),?_⟩
      ·intro a w1 hCC h14 h14 _ _ _ _ _ _ _ _ _ _ _ _ _ _ h14
       have hC:=hCC.1.1;have hD:=hCC.1.2;clear hCC;refine Or.inl ⟨_,?_,h14⟩;go_simp
       all_goals simp [zZ]
      exact trivial
     case hz=>exact hz
     case hok=>kernel_rfl
     case hlz=>exact ⟨rfl,trivial⟩
     case hla=>kernel_rfl
     case hfi=>kernel_rfl
     case hend =>
      rintro w1 ⟨hC,_⟩;rintro _ rfl;rintro _ rfl;rintro _ rfl;intro x3 _;intro x4 _;rintro _ rfl;rintro _ rfl;intro x7 _;intro x8 _;intro x9 _;intro x10 _;rintro _ rfl;rintro _ rfl;intro x13 _;intro x14 _;intro xf hf;simp only [xV,Act.put,qXj,qXp,qXo];have HO5:=hid hf;have HB5:=hid (hbq.trans hC)
      have hfin:(I.take (k + 1)).flatMap imE=ys ++ us ++ vs ++ [0] ++ ws2:=by
       rw [HTF.out,<- HYS.out,imE,HUS.out,HVS.out,HWS.out];simp
      have HFIN:=hid hfin;clear hfin;go_wp2_with fail;go_roundw
      case rel=>exact ⟨k + 1,by omega,by go_num,by rw [HFIN.out];exact HO5.out,HBR.out.trans HB5.out⟩
      case measure=>simp [intOf];omega
    ·
     have e0:k=ni:=by omega
     subst e0;rw [qW9 (by rw [HLi.out];exact qW8 _)] at HYS;go_wp2_with fail;have hss:I.length <= 32:=by rw [HLi.out];omega
     refine (jO 2 (by decide) _ yo yl yc ys wr (by omega) HRY.out (by omega)).mono ?_;rintro e w5 ⟨v5,rfl,h5,b5⟩;rw [qAe 2 imE I _ ys HLi.out HYS.out] at h5;have hsl:=yF 2 imE I;rw [<- HYS.out,HYL.out] at hsl
     obtain ⟨ti,hti⟩:∃ q,qL 2 imE I=q:=⟨_,rfl⟩
     rw [hti] at h5 hsl;have HTi:=hid hti;obtain ⟨so,sc,rfl,hrs⟩:=h5.rd;have HRS:=hid hrs;have h56:=b5.size;have hz5:w0.heap.size <= w5.heap.size:=by have:=HB.out.size;have:=HZ.out;omega
     have HB5:=hid (HB.out.trans ((HBR.out.trans (b5.mono hsr)).mono (show w0.heap.size <= z by have:=HB.out.size;rw [HZ.out] at this;exact this)));have HBO5:=hid ((HBO.out.below (HBR.out.trans (b5.mono hsr)) (by rw [HZ.out];exact qW8 _)));clear h5 b5 hti hrs
     go_wp2_with (at_builtin;refine qA rfl (.tmp 74) (.tmp 79) 37 rfl 5 .u8 w0.heap.size 1 Tryz.underlying37 qG _ bs rfl HBO5.out so _ sc ti rfl HRS.out (by omega) (by omega) hz5 ?_;intro v6 w6 o6 b6 _;have HO6:=hid o6;have HB6:=hid b6;clear o6 b6)
     have HBn:=hid (HB5.out.trans HB6.out);have hbn:(bs ++ ti).length <= 10 + 2 * 4000000000:=by rw [qW7];omega
     obtain ⟨bs2,hbs2⟩:∃ q,bs ++ ti=q:=⟨_,rfl⟩
     rw [hbs2] at HO6 hbn;have HCi:=hid hbs2;clear hbs2 HB5 HBO5 HB6 HRS h56 hz5 hsl hss f0_0 l0_0 HX HBW HRY HYL HO HYS hel HBR hsr HZ hzz HB HBO hkn hk hbl
     obtain ⟨wo,rfl⟩:∃ wo:World,wo=ws:=⟨_,rfl⟩
     obtain ⟨wo2,rfl⟩:∃ wo:World,wo=wr:=⟨_,rfl⟩
     obtain ⟨zo,rfl⟩:∃ q:Nat,q=z:=⟨_,rfl⟩
     obtain ⟨bsi,rfl⟩:∃ q:List Int,q=bs:=⟨_,rfl⟩
     obtain ⟨ws,rfl⟩:∃ q:World,q=w6:=⟨_,rfl⟩
     obtain ⟨bs,rfl⟩:∃ q:List Int,q=bs2:=⟨_,rfl⟩
     have HB:=HBn;have HBO:=HO6;have hbl:=hbn;clear HBn HO6 hbn;go_wp2_with fail
     obtain ⟨z,hz⟩:∃ z,ws.heap.size=z:=⟨_,rfl⟩
     have hzz:w.heap.size + 1 <= z:=by have:=HB.out.size;rw [HZ0.out] at this;omega
     have HZ:=hid hz;clear hz;go_loopw [4,8] (fun v i wr=>∃ k:Nat,k <= nf /\ i=.int .i64 k /\ Own 5 .u8 z wr v ((F.take k).flatMap jG) /\ Below z ws wr) (fun _ i _=>nf - (intOf i).toNat)
     case atStart=>exact ⟨0,qXf _,rfl,by simpa using Own.nil _ _ _ _,qXh _ _⟩
     case round =>
      obtain ⟨k,hkn,rfl,ho,hb⟩:=hrel;have hsr:z <= wr.heap.size:=by have:=hb.size;rw [HZ.out] at this;exact this
      have HO:=hid ho;have HBR:=hid hb;clear ho hb
      have hel:((F.take k).flatMap jG).length <= 32 * 100010000:=by
       have h1:=qM jG (F.take k) 100010000 (fun x hx=>qQ8 x (qXb.1 HPf.out x (qXs hx)));have h2:(F.take k).length <= 32:=by rw [qXu,HLf.out];omega
       exact qXk h1 (qXl 100010000 h2)
      obtain ⟨ys,hys⟩:∃ ys,ys=(F.take k).flatMap jG:=⟨_,rfl⟩
      rw [<- hys] at HO hel;have HYS:=hid hys;clear hys;obtain ⟨yo,yc,rfl,hry⟩:=HO.out.rd
      obtain ⟨yl,hyl⟩:∃ yl,ys.length=yl:=⟨_,rfl⟩
      have HRY:=hid hry;rw [hyl] at HO HRY hel ⊢;have HYL:=hid hyl;clear hry hyl;have HX:=hid (HX0.out.keep (show w.heap.size < w0.heap.size by rw [HZ0.out];omega) (HB.out.trans (HBR.out.mono (show w0.heap.size <= z by rw [HZ0.out];omega))));have HBW:=hid (HB0.out.trans ((HB.out.trans (HBR.out.mono (show w0.heap.size <= z by rw [HZ0.out];omega))).mono (show w.heap.size <= w0.heap.size by rw [HZ0.out];omega)));have f0_0:=HX.out.cell 2 _ rfl;have l0_0:w.heap.size < wr.heap.size:=by omega
      by_cases hk:k < nf
      ·
       obtain ⟨x,hx⟩:∃ x,F[k]?=some x:=⟨F[k]'(by rw [HLf.out];omega),qW6 (by rw [HLf.out];omega)⟩
       have hmy:=qXb.1 HPf.out x (qXa hx);have HTF:=hid (jI jG F k x hx);obtain ⟨b,off,rfl,hc⟩:=HQf.out.at (by omega)
       have c0:=hc k (by omega);rw [show F.getD k 0=x by simp [List.getD,hx]] at c0;have hbw:b < w.heap.size:=qXc w _ c0;have f0_1:=(HBW.out.cell (p:=⟨b,off + k,none⟩) hbw).trans c0;have l0_1:b < wr.heap.size:=by omega
       simp only [jQ,qXi,decide_eq_true_eq] at hmy;obtain ⟨hm1,hm2⟩:=hmy;have hl1:=j9 x
       obtain ⟨us,hus⟩:∃ us,jG x=us:=⟨_,rfl⟩
       rw [hus] at hl1;have HUS:=hid hus;clear hc c0 hx hus;go_wp2_with fail;refine (xC x wr (by omega) (by omega)).mono ?_;rintro e w5 ⟨v5,rfl,h5,b5⟩;rw [HUS.out] at h5;obtain ⟨so,sc,rfl,hrs⟩:=h5.rd;have HRS:=hid hrs;have hsz5:=b5.size;have HO2:=hid (HO.out.below b5 (qW8 _));have HB2:=hid (b5.mono hsr)
       obtain ⟨ul,hul⟩:∃ q,us.length=q:=⟨_,rfl⟩
       rw [hul] at hl1 HRS ⊢;have HUL:=hid hul;have hzw:z <= w5.heap.size:=by omega
       have hfin:(F.take (k + 1)).flatMap jG=ys ++ us:=by rw [HTF.out,<- HYS.out,HUS.out]
       have HFIN:=hid hfin;clear h5 b5 hrs hul hfin f0_0 f0_1 l0_0 l0_1
       go_wp2_with (at_builtin;refine qA rfl (.tmp 88) (.tmp 94) 37 rfl 5 .u8 z 1 Tryz.underlying37 qG _ ys rfl HO2.out so _ sc us rfl HRS.out (by rw [HYL.out];omega) (by rw [HYL.out];omega) hzw ?_;intro v3 w3 o3 b3 _;have HO3:=hid o3;have HB3:=hid b3;clear o3 b3)
       go_roundw
       case rel=>exact ⟨k + 1,by omega,by go_num,by rw [HFIN.out];exact HO3.out,HBR.out.trans (HB2.out.trans HB3.out)⟩
       case measure=>simp [intOf];omega
      ·
       have e0:k=nf:=by omega
       subst e0;rw [qW9 (by rw [HLf.out];exact qW8 _)] at HYS;go_wp2_with fail;have hss:F.length <= 32:=by rw [HLf.out];omega
       refine (jO 3 (by decide) _ yo yl yc ys wr (by omega) HRY.out (by omega)).mono ?_;rintro e w5 ⟨v5,rfl,h5,b5⟩;rw [qAe 3 jG F _ ys HLf.out HYS.out] at h5;have hsl:=yF 3 jG F;rw [<- HYS.out,HYL.out] at hsl
       obtain ⟨tf,htf⟩:∃ q,qL 3 jG F=q:=⟨_,rfl⟩
       rw [htf] at h5 hsl;have HTf:=hid htf;obtain ⟨so,sc,rfl,hrs⟩:=h5.rd;have HRS:=hid hrs;have h56:=b5.size;have hz5:w0.heap.size <= w5.heap.size:=by have:=HB.out.size;have:=HZ.out;omega
       have HB5:=hid (HB.out.trans ((HBR.out.trans (b5.mono hsr)).mono (show w0.heap.size <= z by have:=HB.out.size;rw [HZ.out] at this;exact this)));have HBO5:=hid ((HBO.out.below (HBR.out.trans (b5.mono hsr)) (by rw [HZ.out];exact qW8 _)));clear h5 b5 htf hrs
       go_upto_if 105 with (at_builtin;refine qA rfl (.tmp 96) (.tmp 101) 37 rfl 5 .u8 w0.heap.size 1 Tryz.underlying37 qG _ bs rfl HBO5.out so _ sc tf rfl HRS.out (by omega) (by omega) hz5 ?_;intro v6 w6 o6 b6 _;have g3:=(HX0.out.keep (show w.heap.size < w0.heap.size by rw [HZ0.out];omega) (HB5.out.trans b6)).cell 3 _ rfl;have HO6:=hid o6;have HB6:=hid b6;clear o6 b6)
       have HBn:=hid (HB5.out.trans HB6.out);have hbn:(bs ++ tf).length <= 10 + 3 * 4000000000:=by rw [qW7];omega
       obtain ⟨bs2,hbs2⟩:∃ q,bs ++ tf=q:=⟨_,rfl⟩
       rw [hbs2] at HO6 hbn;have HCf:=hid hbs2;clear hbs2 HB5 HBO5 HB6 HRS h56 hz5 hsl hss f0_0 l0_0 HX HBW HRY HYL HO HYS hel HBR hsr HZ hzz HB HBO hkn hk hbl
       obtain ⟨wo,rfl⟩:∃ wo:World,wo=ws:=⟨_,rfl⟩
       obtain ⟨wo2,rfl⟩:∃ wo:World,wo=wr:=⟨_,rfl⟩
       obtain ⟨zo,rfl⟩:∃ q:Nat,q=z:=⟨_,rfl⟩
       obtain ⟨bsf,rfl⟩:∃ q:List Int,q=bs:=⟨_,rfl⟩
       obtain ⟨ws,rfl⟩:∃ q:World,q=w6:=⟨_,rfl⟩
       obtain ⟨bs,rfl⟩:∃ q:List Int,q=bs2:=⟨_,rfl⟩
       have HB:=HBn;have HBO:=HO6;have hbl:=hbn;clear HBn HO6 hbn
       obtain ⟨tt,htt⟩:∃ q,qL 4 taE (jB ⟨th,tm,tx⟩)=q:=⟨_,rfl⟩
       have HTta:=hid htt;have htl:tt.length <= 1000000000:=by rw [<- htt];exact qIl _
       clear htt;have HXt:=hid (HX0.out.keep (show w.heap.size < w0.heap.size by rw [HZ0.out];omega) HB.out);have g0:=HXt.out.cell 3 _ rfl;have g1:=HXt.out.cell 4 _ rfl;have g2:=HXt.out.cell 5 _ rfl;have lw:w.heap.size < ws.heap.size:=by have:=HB.out.size;rw [HZ0.out] at this;omega
       have hml:=hpt;have HML:=hid hml;clear hml hpt;go_cut [3] from 13 (fun v wc=>Own 5 .u8 w0.heap.size wc v (bs ++ tt) /\ Below w0.heap.size w0 wc)
       case first =>
        cases th with
        | false =>
          have e0:tt=[]:=by rw [<- HTta.out];rfl
          have HE0:=hid e0;clear e0;go_wp2_with fail;go_meet
          case rel=>exact ⟨by rw [HE0.out,List.append_nil];exact HBO.out,HB.out⟩
        | true =>
          have hml:=HML.out;simp only [zS,if_true,qXi,decide_eq_true_eq] at hml;obtain ⟨⟨⟨hm1,hm2⟩,hm3⟩,hm4⟩:=hml;have hl1:=qJp ⟨true,tm,tx⟩
          obtain ⟨us,hus⟩:∃ q,liE ⟨true,tm,tx⟩=q:=⟨_,rfl⟩
          rw [hus] at hl1;have HUS:=hid hus;clear hus;go_wp2_with fail;have hown:=jK ws .u8 5 [112] (by unfold maxLen;simp) (fun z hz=>by simp at hz;subst hz;decide);simp only [List.map_cons,List.map_nil,qXg,qXq,Nat.zero_add] at hown;have hbq:Below ws.heap.size ws (ws.alloc (.cells #[.int .u8 112] 5)):=Bl.alloc (Bl.refl ws) _
          obtain ⟨wq,hwq⟩:∃ q,ws.alloc (.cells #[.int .u8 112] 5)=q:=⟨_,rfl⟩
          rw [hwq] at hown hbq ⊢;have HOW:=hid hown;have HBQ:=hid hbq;have hsq:=hbq.size;clear hwq hown hbq;refine (qB5 true tm tx wq (by omega) (by omega) (by omega) (by omega)).mono ?_;rintro e w5 ⟨v5,rfl,h5,b5⟩;rw [HUS.out] at h5;obtain ⟨so,sc,rfl,hrs⟩:=h5.rd;have HRS:=hid hrs;have hsz5:=b5.size;have HB5:=hid (HBQ.out.trans (b5.mono hsq));have HL5:=hid (HOW.out.below b5 (qW8 _))
          obtain ⟨ul,hul⟩:∃ q,us.length=q:=⟨_,rfl⟩
          rw [hul] at HRS hl1 ⊢;have HUL:=hid hul;clear hul h5 b5 hrs g0 g1 g2;have hzl:ws.heap.size <= w5.heap.size:=by omega
          go_wp2_with (at_builtin;refine qA rfl (.tmp 107) (.tmp 110) 37 rfl 5 .u8 ws.heap.size 1 Tryz.underlying37 qG _ [112] rfl HL5.out so _ sc us rfl HRS.out (by simp;omega) (by simp;omega) hzl ?_;intro v6 w6 o6 b6 _;obtain ⟨cs6,hcs6⟩:∃ q,[112] ++ us=q:=⟨_,rfl⟩;have HCS:=hid hcs6;rw [hcs6] at o6;obtain ⟨qo,qc,rfl,hr6⟩:=o6.rd;obtain ⟨cl6,hcl6⟩:∃ q,cs6.length=q:=⟨_,rfl⟩;have hlc:cl6 <= 101:=(by rw [<- hcl6,<- hcs6];simp;have:=HUL.out;omega);rw [hcl6] at hr6 ⊢;have HR6:=hid hr6;have HB6:=hid b6;have HCL:=hid hcl6;clear o6 b6 hr6 hcs6 hcl6)
          have hsz6:=HB6.out.size;have HBX:=hid (HB5.out.trans HB6.out);have hes:(if (1:Nat)=0 then [] else 4 :: szE (jG ((1:Nat):Int) ++ cs6))=tt:=by rw [<- HTta.out,<- HCS.out,<- HUS.out];exact qAe 4 taE [⟨true,tm,tx⟩] 1 _ rfl (by simp [taE])
          have HES:=hid hes;clear hes;have hsx:ws.heap.size <= w6.heap.size:=HBX.out.size;refine (jO 4 (by decide) 1 qo cl6 qc cs6 w6 (by omega) HR6.out (by omega)).mono ?_;rintro e w8 ⟨v8,rfl,h8,b8⟩;rw [HES.out] at h8;obtain ⟨eo,ec,rfl,hr8⟩:=h8.rd;have HR8:=hid hr8;have hb8:=HBX.out.trans (b8.mono hsx);have HO8:=hid (HBO.out.below hb8 (qW8 _));have HB8:=hid (HB.out.trans (hb8.mono HB.out.size));have hz8:w0.heap.size <= w8.heap.size:=HB8.out.size
          obtain ⟨tl8,htl8⟩:∃ q,tt.length=q:=⟨_,rfl⟩
          rw [htl8] at HR8 htl ⊢;clear h8 b8 hr8 hb8 htl8
          go_wp2_with (at_builtin;refine qA rfl (.tmp 106) (.tmp 112) 37 rfl 5 .u8 w0.heap.size 1 Tryz.underlying37 qG _ bs rfl HO8.out eo _ ec tt rfl HR8.out (by omega) (by omega) hz8 ?_;intro v9 w9 o9 b9 _;have HO9:=hid o9;have HB9:=hid b9;clear o9 b9)
          go_meet
          case rel=>exact ⟨HO9.out,HB8.out.trans HB9.out⟩
       case rest =>
        obtain ⟨ho9,hb9⟩:=hcut;have HBn:=hid hb9;have HOn:=hid ho9;have hbn:(bs ++ tt).length <= 10 + 4 * 4000000000:=by rw [qW7];omega
        obtain ⟨bs2,hbs2⟩:∃ q,bs ++ tt=q:=⟨_,rfl⟩
        rw [hbs2] at HOn hbn;have HCta:=hid hbs2;clear hbs2 HB HBO hbl htl ho9 hb9 HXt g0 g1 g2 lw HML
        obtain ⟨wo,rfl⟩:∃ wo:World,wo=ws:=⟨_,rfl⟩
        obtain ⟨bsta,rfl⟩:∃ q:List Int,q=bs:=⟨_,rfl⟩
        obtain ⟨ttta,rfl⟩:∃ q:List Int,q=tt:=⟨_,rfl⟩
        obtain ⟨ws,rfl⟩:∃ q:World,q=wc:=⟨_,rfl⟩
        obtain ⟨bs,rfl⟩:∃ q:List Int,q=bs2:=⟨_,rfl⟩
        have HB:=HBn;have HBO:=HOn;have hbl:=hbn;clear HBn HOn hbn
        obtain ⟨tt,htt⟩:∃ q,qL 5 liE (jB ⟨mh,mm,mx⟩)=q:=⟨_,rfl⟩
        have HTme:=hid htt;have htl:tt.length <= 1000000000:=by rw [<- htt];exact qIm _
        clear htt;have HXt:=hid (HX0.out.keep (show w.heap.size < w0.heap.size by rw [HZ0.out];omega) HB.out);have g0:=HXt.out.cell 6 _ rfl;have g1:=HXt.out.cell 7 _ rfl;have g2:=HXt.out.cell 8 _ rfl;have lw:w.heap.size < ws.heap.size:=by have:=HB.out.size;rw [HZ0.out] at this;omega
        have hml:=hpm;have HML:=hid hml;clear hml hpm
        go_upto_if 116 with (fail)
        go_cut [3] from 13 (fun v wc=>Own 5 .u8 w0.heap.size wc v (bs ++ tt) /\ Below w0.heap.size w0 wc)
        case first =>
         cases mh with
         | false =>
           have e0:tt=[]:=by rw [<- HTme.out];rfl
           have HE0:=hid e0;clear e0;go_wp2_with fail;go_meet
           case rel=>exact ⟨by rw [HE0.out,List.append_nil];exact HBO.out,HB.out⟩
         | true =>
           have hml:=HML.out;simp only [zS,if_true,qXi,decide_eq_true_eq] at hml;obtain ⟨⟨⟨hm1,hm2⟩,hm3⟩,hm4⟩:=hml;have hl1:=qJp ⟨true,mm,mx⟩
           obtain ⟨us,hus⟩:∃ q,liE ⟨true,mm,mx⟩=q:=⟨_,rfl⟩
           rw [hus] at hl1;have HUS:=hid hus;clear hus;go_wp2_with fail
           obtain ⟨wq,hwq⟩:∃ q,q=ws:=⟨_,rfl⟩
           have HBQ:Hid (Below ws.heap.size ws wq):=hid (by rw [hwq];exact Bl.refl _);rw [<- hwq];have hsq:=HBQ.out.size;clear hwq;refine (qB5 true mm mx wq (by omega) (by omega) (by omega) (by omega)).mono ?_;rintro e w5 ⟨v5,rfl,h5,b5⟩;rw [HUS.out] at h5;obtain ⟨so,sc,rfl,hrs⟩:=h5.rd;have HRS:=hid hrs;have hsz5:=b5.size;have HB5:=hid (HBQ.out.trans (b5.mono hsq))
           obtain ⟨ul,hul⟩:∃ q,us.length=q:=⟨_,rfl⟩
           rw [hul] at HRS hl1 ⊢;have HUL:=hid hul;clear hul h5 b5 hrs g0 g1 g2;go_wp2_with fail;have HBX:=HB5;have hlc:=hl1;have hes:(if (1:Nat)=0 then [] else 5 :: szE (jG ((1:Nat):Int) ++ us))=tt:=by rw [<- HTme.out,<- HUS.out];exact qAe 5 liE [⟨true,mm,mx⟩] 1 _ rfl (by simp)
           have HES:=hid hes;clear hes;have hsx:ws.heap.size <= w5.heap.size:=HBX.out.size;refine (jO 5 (by decide) 1 so ul sc us w5 (by omega) HRS.out (by omega)).mono ?_;rintro e w8 ⟨v8,rfl,h8,b8⟩;rw [HES.out] at h8;obtain ⟨eo,ec,rfl,hr8⟩:=h8.rd;have HR8:=hid hr8;have hb8:=HBX.out.trans (b8.mono hsx);have HO8:=hid (HBO.out.below hb8 (qW8 _));have HB8:=hid (HB.out.trans (hb8.mono HB.out.size));have hz8:w0.heap.size <= w8.heap.size:=HB8.out.size
           obtain ⟨tl8,htl8⟩:∃ q,tt.length=q:=⟨_,rfl⟩
           rw [htl8] at HR8 htl ⊢;clear h8 b8 hr8 hb8 htl8
           go_wp2_with (at_builtin;refine qA rfl (.tmp 117) (.tmp 121) 37 rfl 5 .u8 w0.heap.size 1 Tryz.underlying37 qG _ bs rfl HO8.out eo _ ec tt rfl HR8.out (by omega) (by omega) hz8 ?_;intro v9 w9 o9 b9 _;have HO9:=hid o9;have HB9:=hid b9;clear o9 b9)
           go_meet
           case rel=>exact ⟨HO9.out,HB8.out.trans HB9.out⟩
        case rest =>
         obtain ⟨ho9,hb9⟩:=hcut;have HBn:=hid hb9;have HOn:=hid ho9;have hbn:(bs ++ tt).length <= 10 + 5 * 4000000000:=by rw [qW7];omega
         obtain ⟨bs2,hbs2⟩:∃ q,bs ++ tt=q:=⟨_,rfl⟩
         rw [hbs2] at HOn hbn;have HCme:=hid hbs2;clear hbs2 HB HBO hbl htl ho9 hb9 HXt g0 g1 g2 lw HML
         obtain ⟨wo,rfl⟩:∃ wo:World,wo=ws:=⟨_,rfl⟩
         obtain ⟨bsme,rfl⟩:∃ q:List Int,q=bs:=⟨_,rfl⟩
         obtain ⟨ttme,rfl⟩:∃ q:List Int,q=tt:=⟨_,rfl⟩
         obtain ⟨ws,rfl⟩:∃ q:World,q=wc:=⟨_,rfl⟩
         obtain ⟨bs,rfl⟩:∃ q:List Int,q=bs2:=⟨_,rfl⟩
         have HB:=HBn;have HBO:=HOn;have hbl:=hbn;clear HBn HOn hbn;go_wp2_with fail
         obtain ⟨z,hz⟩:∃ z,ws.heap.size=z:=⟨_,rfl⟩
         have hzz:w.heap.size + 1 <= z:=by have:=HB.out.size;rw [HZ0.out] at this;omega
         have HZ:=hid hz;clear hz;go_loopw [4,9] (fun v i wr=>∃ k:Nat,k <= ng /\ i=.int .i64 k /\ Own 5 .u8 z wr v ((G.take k).flatMap glE) /\ Below z ws wr) (fun _ i _=>ng - (intOf i).toNat)
         case atStart=>exact ⟨0,qXf _,rfl,by simpa using Own.nil _ _ _ _,qXh _ _⟩
         case round =>
          obtain ⟨k,hkn,rfl,ho,hb⟩:=hrel;have hsr:z <= wr.heap.size:=by have:=hb.size;rw [HZ.out] at this;exact this
          have HO:=hid ho;have HBR:=hid hb;clear ho hb
          have hel:((G.take k).flatMap glE).length <= 32 * 100010000:=by
           have h1:=qM glE (G.take k) 100010000 (fun x hx=>qTr x (qXb.1 HPg.out x (qXs hx)));have h2:(G.take k).length <= 32:=by rw [qXu,HLg.out];omega
           exact qXk h1 (qXl 100010000 h2)
          obtain ⟨ys,hys⟩:∃ ys,ys=(G.take k).flatMap glE:=⟨_,rfl⟩
          rw [<- hys] at HO hel;have HYS:=hid hys;clear hys;obtain ⟨yo,yc,rfl,hry⟩:=HO.out.rd
          obtain ⟨yl,hyl⟩:∃ yl,ys.length=yl:=⟨_,rfl⟩
          have HRY:=hid hry;rw [hyl] at HO HRY hel ⊢;have HYL:=hid hyl;clear hry hyl;have HX:=hid (HX0.out.keep (show w.heap.size < w0.heap.size by rw [HZ0.out];omega) (HB.out.trans (HBR.out.mono (show w0.heap.size <= z by rw [HZ0.out];omega))));have HBW:=hid (HB0.out.trans ((HB.out.trans (HBR.out.mono (show w0.heap.size <= z by rw [HZ0.out];omega))).mono (show w.heap.size <= w0.heap.size by rw [HZ0.out];omega)));have f0_0:=HX.out.cell 9 _ rfl;have l0_0:w.heap.size < wr.heap.size:=by omega
          by_cases hk:k < ng
          ·
           obtain ⟨x,hx⟩:∃ x,G[k]?=some x:=⟨G[k]'(by rw [HLg.out];omega),qW6 (by rw [HLg.out];omega)⟩
           have HMY:=hid (qXb.1 HPg.out x (qXa hx));have HTF:=hid (jI glE G k x hx);obtain ⟨b,off,cs,rfl,hcl,hRR,hcw⟩:=RdG.elem HQg.out hx;have hbw:b < w.heap.size:=qXc w _ (hcw 0 cs[0] (qW6 (by omega)));have hcc:=fun j v hj=>(HBW.out.cell (p:=⟨b,off + k * 3 + j,none⟩) hbw).trans (hcw j v hj)
           have hwz:w.heap.size <= z:=by omega
           have hbz:b < z:=by omega
           have hpz:w.heap.size < z:=by omega
           obtain ⟨y1,y2,y3⟩:=x;have hmy:=HMY.out;unfold yY at hmy;have HOK:Hid (uX y2 y3=true):=hid hmy;have hk2:yG y2=true:=by unfold uX at hmy;unfold yG;by_cases h:y2=1 <;> simp_all
           obtain ⟨hcs,hy1,hy2⟩:=hRR.now;subst hcs;have HYB:=hid (And.intro hy1 hy2);have HK2:=hid hk2;have f0_1:=hcc 0 _ rfl;have f0_2:=hcc 1 _ rfl;have f0_3:=hcc 2 _ rfl;simp only [qXd] at f0_1;have l0_1:b < wr.heap.size:=by omega
           clear hcc hcw hRR hx hcl hmy hk2 hy1 hy2;have hl1:=yC y2 y3
           obtain ⟨us,hus⟩:∃ us,qBk y2 y3=us:=⟨_,rfl⟩
           rw [hus] at hl1;have HUS:=hid hus;clear hus
           obtain ⟨kb,hkb⟩:∃ q,kB y2=q:=⟨_,rfl⟩
           have hkw:=qQe y2;rw [hkb] at hkw;have HKW:=hid hkw;have HKB:=hid hkb;clear hkb hkw
           go_upto_if 136 with (fail)
           clear f0_0 f0_1 f0_2 f0_3 l0_0 l0_1
           obtain ⟨q,hq⟩:∃ q,wr.heap.size=q:=⟨_,rfl⟩
           have hkp:Kp [(q,.cells #[.bool y1,.int .i64 y2,.int .i64 y3] 58 (0,0))] (wr.alloc (.cells #[.bool y1,.int .i64 y2,.int .i64 y3] 58)):=by rw [<- hq];exact qR1 _ _ _
           have hkt:KpT 5 [(q,.cells #[.bool y1,.int .i64 y2,.int .i64 y3] 58 (0,0))]:=by intro p hp cur f e;rw [List.mem_singleton] at hp;subst hp;cases e
           have hz:z <= (wr.alloc (.cells #[.bool y1,.int .i64 y2,.int .i64 y3] 58)).heap.size:=by simp;omega
           have hoq:=HO.out.alloc (.cells #[.bool y1,.int .i64 y2,.int .i64 y3] 58);have hbq:Below z wr (wr.alloc (.cells #[.bool y1,.int .i64 y2,.int .i64 y3] 58)):=(Bl.alloc (Bl.refl wr) _).mono hsr;rw [hq]
           obtain ⟨wq,hwq⟩:∃ q,(wr.alloc (.cells #[.bool y1,.int .i64 y2,.int .i64 y3] 58))=q:=⟨_,rfl⟩
           rw [hwq] at hkp hz hoq hbq ⊢;clear hwq;have g0:=qAo hkp 0 _ rfl;simp only [qXd] at g0
           obtain ⟨mb,hmb⟩:∃ q,muB y1=q:=⟨_,rfl⟩
           have HMB:=hid hmb;clear hmb;have HKP:=hid hkp;have HKT:=hid hkt;have HOQ:=hid hoq;have HBQ:=hid hbq;clear hkp hkt hoq hbq;go_cut [11] from 123 to 148 (fun v wc=>v=.int .u8 mb /\ wc=wq)
           case first =>
            cases y1 with
            | false =>
              have e0:mb=0:=by rw [<- HMB.out];rfl
              have HE0:=hid e0;clear e0;go_wp2_with fail;go_meet
              case rel=>exact ⟨by rw [HE0.out],rfl⟩
            | true =>
              have e0:mb=1:=by rw [<- HMB.out];rfl
              have HE0:=hid e0;clear e0;go_wp2_with fail;go_meet
              case rel=>exact ⟨by rw [HE0.out],rfl⟩
           case rest =>
            obtain ⟨rfl,rfl⟩:=hcut;have hmw:(Lit.int .u8 mb).wf=true:=by rw [<- HMB.out];cases y1 <;> decide
            have HMW:=hid hmw;clear hmw g0;go_wp2_with fail;have hkp:=HKP.out;have hkt:=HKT.out;have hoq:=HOQ.out;have hbq:=HBQ.out;refine vI (E:=5) (z:=z) (by kernel_rfl) 7 (.slice yo yl yc) (ys) (hoq) ?hz [(q,.cells #[.bool y1,.int .i64 y2,.int .i64 y3] 58 (0,0))] hkp hkt [.is (.slice yo yl yc),.is ?v33x1,.is ?v33x2,.is (.int .i64 y2),.is (.int .u8 kb),.is (.int .u8 mb),.rd [kb,mb],.own (ys ++ [kb,mb]),.is ?v33x8,.is (.agg #[.int .i64 y2,.int .i64 y3]),.rd us,.own (ys ++ [kb,mb] ++ us)] ((ys ++ [kb,mb] ++ us)) [(7,ys),(11,(ys ++ [kb,mb]))] [0,1,2,3,4,5,6,7,8,9,10,11,12] rfl (by kernel_rfl) rfl ?hop ?hok ?hlz ?hla ?hfi ?hend
            case hop =>
             refine ⟨jJ rfl (rq (Is (.slice yo yl yc)) none [] [(4,.slice yo yl yc)] ⟨⟨by kernel_rfl,rfl⟩,trivial⟩ ?_),?_⟩
             ·intro a w1 hCC e4
              have hC:=hCC.1.1;have hD:=hCC.1.2;clear hCC;refine Or.inl ⟨(.slice yo yl yc),?_,rfl⟩;go_simp
              all_goals (first | rfl | (go_bits;rfl))
             refine ⟨jJ rfl (rq (Is ?v33x1) none [] [(10,.pointer (some ⟨q,0,none⟩))] ⟨⟨by kernel_rfl,rfl⟩,trivial⟩ ?_),?_⟩
             ·intro a w1 hCC e10
              have hC:=hCC.1.1;have hD:=hCC.1.2;clear hCC;refine Or.inl ⟨_,?_,rfl⟩;go_simp
              all_goals (first | (go_bits;rfl) | rfl | (rw [if_pos (by omega)]))
             refine ⟨jJ rfl (rq (Is ?v33x2) none [(some 138,Is ?v33x1)] [] trivial ?_),?_⟩
             ·intro a w1 hCC (h1:a.tmps.getD 138 undef=_)
              have hC:=hCC.1.1;have hD:=hCC.1.2;clear hCC;refine Or.inl ⟨_,?_,rfl⟩;go_simp
              all_goals (first | (go_bits;rfl) | rfl | (rw [if_pos (by omega)]))
             refine ⟨jJ rfl (rq (Is (.int .i64 y2)) none [(some 139,Is ?v33x2)] [] trivial ?_),?_⟩
             ·intro a w1 hCC (h2:a.tmps.getD 139 undef=_)
              have hC:=hCC.1.1;have hD:=hCC.1.2;clear hCC;refine Or.inl ⟨.int .i64 y2,?_,rfl⟩;have f0:=qAo hD 1 _ rfl;simp only [Nat.zero_add] at f0;go_simp
             refine ⟨jJ rfl (rq (Is (.int .u8 kb)) none [(some 140,Is (.int .i64 y2))] [] trivial ?_),?_⟩
             ·intro a w1 hCC (h3:a.tmps.getD 140 undef=_)
              have hC:=hCC.1.1;have hD:=hCC.1.2;clear hCC;refine Or.inr (Or.inl ⟨54,#[.int .i64 y2],?_,?_⟩)
              ·go_simp
              ·refine (uQ y2 w1 HK2.out).mono ?_
               rintro e w2 ⟨rfl,rfl⟩;rw [HKB.out];exact ⟨_,rfl,rfl,qXh _ _⟩
             refine ⟨jJ rfl (rq (Is (.int .u8 mb)) none [] [(11,.int .u8 mb)] ⟨⟨by kernel_rfl,rfl⟩,trivial⟩ ?_),?_⟩
             ·intro a w1 hCC e11
              have hC:=hCC.1.1;have hD:=hCC.1.2;clear hCC;refine Or.inl ⟨(.int .u8 mb),?_,rfl⟩;go_simp
              all_goals (first | rfl | (go_bits;rfl))
             refine ⟨jJ rfl (rq (fcF 5 z (.rd [kb,mb])) none [(some 141,Is (.int .u8 kb)),(some 142,Is (.int .u8 mb))] [] trivial ?_),?_⟩
             ·intro a w1 hCC (h4:a.tmps.getD 141 undef=_) (h5:a.tmps.getD 142 undef=_)
              have hC:=hCC.1.1;have hD:=hCC.1.2;clear hCC;refine Or.inr (Or.inr ⟨.slice (some ⟨w1.heap.size,0,none⟩) 2 2,w1.alloc (.cells #[.int .u8 kb,.int .u8 mb] 5),?_,⟨_,_,rfl,Rd.built2 _ _ _ _ _ HKW.out HMW.out⟩,Bl.alloc (Bl.refl _) _⟩);have h4z:a.tmps[141]?.getD undef=.int .u8 kb:=by simpa using h4
              have h5z:a.tmps[142]?.getD undef=.int .u8 mb:=by simpa using h5
              go_simp
             refine ⟨uV (o:=⟨_,_,_,_,_,_⟩) (d:=144) (sa:=137) (sb:=143) (t:=37) (j0:=0) (j1:=6) (v0:=.slice yo yl yc) (xs:=ys) rfl rfl rfl rfl Tryz.underlying37 qG (by kernel_rfl) (by kernel_rfl) (by kernel_rfl) (by kernel_rfl) rfl rfl rfl (.inl rfl) rfl (by (try simp only [qW7]);(try simp only [qXg,qXq]);rw [HYL.out];omega) (fun w h=>qXk hz h.1.1.size) (fun w h=>h.2 rfl) (qFf rfl (fun b hb=>((hoq).lt b hb).2)),?_⟩;refine ⟨jJ rfl (rq (Is ?v33x8) none [] [(10,.pointer (some ⟨q,0,none⟩))] ⟨⟨by kernel_rfl,rfl⟩,trivial⟩ ?_),?_⟩
             ·intro a w1 hCC e10
              have hC:=hCC.1.1;have hD:=hCC.1.2;clear hCC;refine Or.inl ⟨_,?_,rfl⟩;go_simp
              all_goals (first | (go_bits;rfl) | rfl | (rw [if_pos (by omega)]))
             refine ⟨jJ rfl (rq (Is (.agg #[.int .i64 y2,.int .i64 y3])) none [(some 145,Is ?v33x8)] [] trivial ?_),?_⟩
             ·intro a w1 hCC (h8:a.tmps.getD 145 undef=_)
              have hC:=hCC.1.1;have hD:=hCC.1.2;clear hCC;refine Or.inl ⟨.agg #[.int .i64 y2,.int .i64 y3],?_,rfl⟩;have f0:=qAo hD 1 _ rfl;have f1:=qAo hD 2 _ rfl;simp only [Nat.zero_add] at f0 f1;go_simp
             refine ⟨jJ rfl (rq (fcF 5 z (.rd us)) none [(some 146,Is (.agg #[.int .i64 y2,.int .i64 y3])),(some 144,fun _ _=>True)] [] trivial ?_),?_⟩
             ·intro a w1 hCC (h9:a.tmps.getD 146 undef=_) _
              have hC:=hCC.1.1;have hD:=hCC.1.2;clear hCC;refine Or.inr (Or.inl ⟨55,#[.agg #[.int .i64 y2,.int .i64 y3]],?_,?_⟩)
              ·go_simp
              ·refine (yO y2 y3 w1 HOK.out HYB.out).mono ?_
               rintro e w2 ⟨vv,rfl,hown,hbel⟩;rw [HUS.out] at hown;obtain ⟨ao1,cap1,rfl,hrd⟩:=hown.rd;exact ⟨_,rfl,⟨ao1,cap1,rfl,hrd⟩,hbel⟩
             refine ⟨xG (o:=⟨_,_,_,_,_,_⟩) (d:=148) (sa:=144) (sb:=147) (t:=37) (j0:=7) (j1:=10) rfl rfl rfl rfl Tryz.underlying37 qG (by kernel_rfl) (by kernel_rfl) (by kernel_rfl) (by kernel_rfl) rfl rfl rfl (.inl rfl) rfl (by (try simp only [qW7]);(try simp only [qXg,qXq]);rw [HYL.out];omega) (fun w h=>qXk hz h.1.1.size) (qBr rfl (by (try simp only [qW7]);(try simp only [qXg,qXq]);omega)),?_⟩;refine ⟨jJ rfl (rq (fcF 5 z (.own (ys ++ [kb,mb] ++ us))) none [(some 148,fcF 5 z (.own (ys ++ [kb,mb] ++ us))),(some 148,fcF 5 z (.own (ys ++ [kb,mb] ++ us))),(some 137,fun _ _=>True),(some 138,fun _ _=>True),(some 139,fun _ _=>True),(some 140,fun _ _=>True),(some 141,fun _ _=>True),(some 142,fun _ _=>True),(some 143,fun _ _=>True),(some 144,fun _ _=>True),(some 145,fun _ _=>True),(some 146,fun _ _=>True),(some 147,fun _ _=>True),(some 148,fcF 5 z (.own (ys ++ [kb,mb] ++ us)))] [] trivial ?_),?_⟩
             ·intro a w1 hCC h11 h11 _ _ _ _ _ _ _ _ _ _ _ h11
              have hC:=hCC.1.1;have hD:=hCC.1.2;clear hCC;refine Or.inl ⟨_,?_,h11⟩;go_simp
              all_goals simp [zZ]
             exact trivial
            case hz=>exact hz
            case hok=>kernel_rfl
            case hlz=>exact trivial
            case hla=>kernel_rfl
            case hfi=>kernel_rfl
            case hend =>
             rintro w1 ⟨hC,_⟩;rintro _ rfl;rintro _ rfl;rintro _ rfl;rintro _ rfl;rintro _ rfl;rintro _ rfl;intro x6 _;intro x7 _;rintro _ rfl;rintro _ rfl;intro x10 _;intro x11 _;intro xf hf;simp only [xV,Act.put,qXj,qXp,qXo];have HO5:=hid hf;have HB5:=hid (hbq.trans hC)
             have hfin:(G.take (k + 1)).flatMap glE=ys ++ [kb,mb] ++ us:=by
              rw [HTF.out,<- HYS.out,glE,HKB.out,HMB.out,HUS.out];simp
             have HFIN:=hid hfin;clear hfin;go_wp2_with fail;go_roundw
             case rel=>exact ⟨k + 1,by omega,by go_num,by rw [HFIN.out];exact HO5.out,HBR.out.trans HB5.out⟩
             case measure=>simp [intOf];omega
          ·
           have e0:k=ng:=by omega
           subst e0;rw [qW9 (by rw [HLg.out];exact qW8 _)] at HYS;go_wp2_with fail;have hss:G.length <= 32:=by rw [HLg.out];omega
           refine (jO 6 (by decide) _ yo yl yc ys wr (by omega) HRY.out (by omega)).mono ?_;rintro e w5 ⟨v5,rfl,h5,b5⟩;rw [qAe 6 glE G _ ys HLg.out HYS.out] at h5;have hsl:=yF 6 glE G;rw [<- HYS.out,HYL.out] at hsl
           obtain ⟨tg,htg⟩:∃ q,qL 6 glE G=q:=⟨_,rfl⟩
           rw [htg] at h5 hsl;have HTg:=hid htg;obtain ⟨so,sc,rfl,hrs⟩:=h5.rd;have HRS:=hid hrs;have h56:=b5.size;have hz5:w0.heap.size <= w5.heap.size:=by have:=HB.out.size;have:=HZ.out;omega
           have HB5:=hid (HB.out.trans ((HBR.out.trans (b5.mono hsr)).mono (show w0.heap.size <= z by have:=HB.out.size;rw [HZ.out] at this;exact this)));have HBO5:=hid ((HBO.out.below (HBR.out.trans (b5.mono hsr)) (by rw [HZ.out];exact qW8 _)));clear h5 b5 htg hrs
           go_wp2_with (at_builtin;refine qA rfl (.tmp 149) (.tmp 154) 37 rfl 5 .u8 w0.heap.size 1 Tryz.underlying37 qG _ bs rfl HBO5.out so _ sc tg rfl HRS.out (by omega) (by omega) hz5 ?_;intro v6 w6 o6 b6 _;have HO6:=hid o6;have HB6:=hid b6;clear o6 b6)
           have HBn:=hid (HB5.out.trans HB6.out);have hbn:(bs ++ tg).length <= 10 + 6 * 4000000000:=by rw [qW7];omega
           obtain ⟨bs2,hbs2⟩:∃ q,bs ++ tg=q:=⟨_,rfl⟩
           rw [hbs2] at HO6 hbn;have HCg:=hid hbs2;clear hbs2 HB5 HBO5 HB6 HRS h56 hz5 hsl hss f0_0 l0_0 HX HBW HRY HYL HO HYS hel HBR hsr HZ hzz HB HBO hkn hk hbl
           obtain ⟨wo,rfl⟩:∃ wo:World,wo=ws:=⟨_,rfl⟩
           obtain ⟨wo2,rfl⟩:∃ wo:World,wo=wr:=⟨_,rfl⟩
           obtain ⟨zo,rfl⟩:∃ q:Nat,q=z:=⟨_,rfl⟩
           obtain ⟨bsg,rfl⟩:∃ q:List Int,q=bs:=⟨_,rfl⟩
           obtain ⟨ws,rfl⟩:∃ q:World,q=w6:=⟨_,rfl⟩
           obtain ⟨bs,rfl⟩:∃ q:List Int,q=bs2:=⟨_,rfl⟩
           have HB:=HBn;have HBO:=HO6;have hbl:=hbn;clear HBn HO6 hbn;go_wp2_with fail
           obtain ⟨z,hz⟩:∃ z,ws.heap.size=z:=⟨_,rfl⟩
           have hzz:w.heap.size + 1 <= z:=by have:=HB.out.size;rw [HZ0.out] at this;omega
           have HZ:=hid hz;clear hz;go_loopw [4,12] (fun v i wr=>∃ k:Nat,k <= ne /\ i=.int .i64 k /\ Own 5 .u8 z wr v ((E.take k).flatMap exE) /\ Below z ws wr) (fun _ i _=>ne - (intOf i).toNat)
           case atStart=>exact ⟨0,qXf _,rfl,by simpa using Own.nil _ _ _ _,qXh _ _⟩
           case round =>
            obtain ⟨k,hkn,rfl,ho,hb⟩:=hrel;have hsr:z <= wr.heap.size:=by have:=hb.size;rw [HZ.out] at this;exact this
            have HO:=hid ho;have HBR:=hid hb;clear ho hb
            have hel:((E.take k).flatMap exE).length <= 32 * 100010000:=by
             have h1:=qM exE (E.take k) 100010000 (fun x hx=>qTs x (qXb.1 HPe.out x (qXs hx)));have h2:(E.take k).length <= 32:=by rw [qXu,HLe.out];omega
             exact qXk h1 (qXl 100010000 h2)
            obtain ⟨ys,hys⟩:∃ ys,ys=(E.take k).flatMap exE:=⟨_,rfl⟩
            rw [<- hys] at HO hel;have HYS:=hid hys;clear hys;obtain ⟨yo,yc,rfl,hry⟩:=HO.out.rd
            obtain ⟨yl,hyl⟩:∃ yl,ys.length=yl:=⟨_,rfl⟩
            have HRY:=hid hry;rw [hyl] at HO HRY hel ⊢;have HYL:=hid hyl;clear hry hyl;have HX:=hid (HX0.out.keep (show w.heap.size < w0.heap.size by rw [HZ0.out];omega) (HB.out.trans (HBR.out.mono (show w0.heap.size <= z by rw [HZ0.out];omega))));have HBW:=hid (HB0.out.trans ((HB.out.trans (HBR.out.mono (show w0.heap.size <= z by rw [HZ0.out];omega))).mono (show w.heap.size <= w0.heap.size by rw [HZ0.out];omega)));have f0_0:=HX.out.cell 10 _ rfl;have l0_0:w.heap.size < wr.heap.size:=by omega
            by_cases hk:k < ne
            ·
             obtain ⟨x,hx⟩:∃ x,E[k]?=some x:=⟨E[k]'(by rw [HLe.out];omega),qW6 (by rw [HLe.out];omega)⟩
             have HMY:=hid (qXb.1 HPe.out x (qXa hx));have HTF:=hid (jI exE E k x hx);obtain ⟨b,off,cs,rfl,hcl,hRR,hcw⟩:=RdG.elem HQe.out hx;have hbw:b < w.heap.size:=qXc w _ (hcw 0 cs[0] (qW6 (by omega)));have hcc:=fun j v hj=>(HBW.out.cell (p:=⟨b,off + k * 2 + j,none⟩) hbw).trans (hcw j v hj)
             have hwz:w.heap.size <= z:=by omega
             have hbz:b < z:=by omega
             have hpz:w.heap.size < z:=by omega
             obtain ⟨y1,y2⟩:=x;have hmy:=HMY.out;unfold xM zF jQ at hmy;simp only [qXi,decide_eq_true_eq] at hmy;obtain ⟨⟨⟨hn1,hn2⟩,_⟩,hn5,hn6⟩:=hmy;have hcs:cs=[.string y1,.int .i64 y2]:=hRR.now;subst hcs;have f0_1:=hcc 0 _ rfl;have f0_2:=hcc 1 _ rfl;have HE0:=hid f0_1;have HE1:=hid f0_2;have l0_1:b < wr.heap.size:=by omega
             have hl1:=qEb y1 (by omega);have hl3:=j9 y2;have hl4:=qR2 y1 (by omega)
             obtain ⟨us,hus⟩:∃ us,nmE y1=us:=⟨_,rfl⟩
             obtain ⟨vs,hvs⟩:∃ vs,jG y2=vs:=⟨_,rfl⟩
             rw [hus] at hl1 hl4;rw [hvs] at hl3;have HUS:=hid hus;have HVS:=hid hvs;clear hcc hcw hRR hx hcl hus hvs;have hz:=hsr;go_wp2_with fail;clear f0_0 f0_1 f0_2 l0_0 l0_1;refine vI (E:=5) (z:=z) (by kernel_rfl) 8 (.slice yo yl yc) (ys) (HO.out) ?hz [] (fun p hp=>by cases hp) (fun p hp=>by cases hp) [.is (.slice yo yl yc),.is ?v39x1,.is (.slice (some ⟨b,off,none⟩) ne ce),.is ?v39x3,.is ?v39x4,.is ?v39x5,.is (.string y1),.rd us,.own (ys ++ us),.lit wr.heap.size 0,.own (ys ++ us ++ [0]),.is ?v39x11,.is (.slice (some ⟨b,off,none⟩) ne ce),.is ?v39x13,.is ?v39x14,.is ?v39x15,.is (.int .i64 y2),.rd vs,.own (ys ++ us ++ [0] ++ vs)] ((ys ++ us ++ [0] ++ vs)) [(8,ys),(10,(ys ++ us)),(18,(ys ++ us ++ [0]))] [0,1,2,3,4,5,6,7,8,9,10,11,12,13,14,15,16,17,18,19] rfl (by kernel_rfl) rfl ?hop ?hok ?hlz ?hla ?hfi ?hend
             case hop =>
              refine ⟨jJ rfl (rq (Is (.slice yo yl yc)) none [] [(4,.slice yo yl yc)] ⟨⟨by kernel_rfl,rfl⟩,trivial⟩ ?_),?_⟩
              ·intro a w1 hCC e4
               have hC:=hCC.1.1;have hD:=hCC.1.2;clear hCC;refine Or.inl ⟨(.slice yo yl yc),?_,rfl⟩;go_simp
               all_goals (first | rfl | (go_bits;rfl))
              refine ⟨jJ rfl (rq (Is ?v39x1) none [] [(1,.pointer (some ⟨w.heap.size,0,none⟩))] ⟨⟨by kernel_rfl,rfl⟩,trivial⟩ ?_),?_⟩
              ·intro a w1 hCC e1
               have hC:=hCC.1.1;have hD:=hCC.1.2;clear hCC;refine Or.inl ⟨_,?_,rfl⟩;go_simp
               all_goals (first | (go_bits;rfl) | rfl | (rw [if_pos (by omega)]))
              refine ⟨jJ rfl (rq (Is (.slice (some ⟨b,off,none⟩) ne ce)) none [(some 164,Is ?v39x1)] [] trivial ?_),?_⟩
              ·intro a w1 hCC (h1:a.tmps.getD 164 undef=_)
               have hC:=hCC.1.1;have hD:=hCC.1.2;clear hCC;refine Or.inl ⟨.slice (some ⟨b,off,none⟩) ne ce,?_,rfl⟩;have f0:=(hC.cell (p:=⟨w.heap.size,10,none⟩) hpz).trans (HX.out.cell 10 _ rfl)
               try simp only [qXd] at f0
               go_simp
              refine ⟨jJ rfl (rq (Is ?v39x3) none [] [(12,.int .i64 k)] ⟨⟨by kernel_rfl,rfl⟩,trivial⟩ ?_),?_⟩
              ·intro a w1 hCC e12
               have hC:=hCC.1.1;have hD:=hCC.1.2;clear hCC;refine Or.inl ⟨_,?_,rfl⟩;go_simp
               all_goals (first | (go_bits;rfl) | rfl | (rw [if_pos (by omega)]))
              refine ⟨jJ rfl (rq (Is ?v39x4) none [(some 165,Is (.slice (some ⟨b,off,none⟩) ne ce)),(some 166,Is ?v39x3)] [] trivial ?_),?_⟩
              ·intro a w1 hCC (h2:a.tmps.getD 165 undef=_) (h3:a.tmps.getD 166 undef=_)
               have hC:=hCC.1.1;have hD:=hCC.1.2;clear hCC;refine Or.inl ⟨_,?_,rfl⟩;go_simp
               all_goals (first | (go_bits;rfl) | rfl | (rw [if_pos (by omega)]))
              refine ⟨jJ rfl (rq (Is ?v39x5) none [(some 167,Is ?v39x4)] [] trivial ?_),?_⟩
              ·intro a w1 hCC (h4:a.tmps.getD 167 undef=_)
               have hC:=hCC.1.1;have hD:=hCC.1.2;clear hCC;refine Or.inl ⟨_,?_,rfl⟩;go_simp
               all_goals (first | (go_bits;rfl) | rfl | (rw [if_pos (by omega)]))
              refine ⟨jJ rfl (rq (Is (.string y1)) none [(some 168,Is ?v39x5)] [] trivial ?_),?_⟩
              ·intro a w1 hCC (h5:a.tmps.getD 168 undef=_)
               have hC:=hCC.1.1;have hD:=hCC.1.2;clear hCC;refine Or.inl ⟨.string y1,?_,rfl⟩;have f0:=(hC.cell (p:=⟨b,off + k * 2 + 0,none⟩) hbz).trans (HE0.out)
               try simp only [qXd] at f0
               go_simp
              refine ⟨jJ rfl (rq (fcF 5 z (.rd us)) none [(some 169,Is (.string y1))] [] trivial ?_),?_⟩
              ·intro a w1 hCC (h6:a.tmps.getD 169 undef=_)
               have hC:=hCC.1.1;have hD:=hCC.1.2;clear hCC;refine Or.inr (Or.inl ⟨51,#[.string y1],?_,?_⟩)
               ·go_simp
               ·refine (qBs y1 w1 (by omega)).mono ?_
                rintro e w2 ⟨vv,rfl,hown,hbel⟩;rw [HUS.out] at hown;obtain ⟨ao1,cap1,rfl,hrd⟩:=hown.rd;exact ⟨_,rfl,⟨ao1,cap1,rfl,hrd⟩,hbel⟩
              refine ⟨uV (o:=⟨_,_,_,_,_,_⟩) (d:=171) (sa:=163) (sb:=170) (t:=37) (j0:=0) (j1:=7) (v0:=.slice yo yl yc) (xs:=ys) rfl rfl rfl rfl Tryz.underlying37 qG (by kernel_rfl) (by kernel_rfl) (by kernel_rfl) (by kernel_rfl) rfl rfl rfl (.inl rfl) rfl (by (try simp only [qW7]);(try simp only [qXg,qXq]);rw [HYL.out];omega) (fun w h=>qXk hz h.1.1.size) (fun w h=>h.2 rfl) (qFf rfl (fun b hb=>((HO.out).lt b hb).2)),?_⟩;refine ⟨jJ rfl (rq (fcF 5 z (.lit wr.heap.size 0)) none [] [] trivial ?_),?_⟩
              ·intro a w1 hCC
               have hC:=hCC.1.1;have hD:=hCC.1.2;clear hCC;refine Or.inr (Or.inr ⟨.slice (some ⟨w1.heap.size,0,none⟩) 1 1,w1.alloc (.cells #[.int .u8 0] 5),?_,⟨w1.heap.size,rfl,hC.size,heap_alloc_new _ _,by decide⟩,Bl.alloc (Bl.refl _) _⟩);go_simp
              refine ⟨xG (o:=⟨_,_,_,_,_,_⟩) (d:=173) (sa:=171) (sb:=172) (t:=37) (j0:=8) (j1:=9) rfl rfl rfl rfl Tryz.underlying37 qG (by kernel_rfl) (by kernel_rfl) (by kernel_rfl) (by kernel_rfl) rfl rfl rfl (.inr (.inr ⟨_,_,rfl,rfl⟩)) rfl (by (try simp only [qW7]);(try simp only [qXg,qXq]);rw [HYL.out];omega) (fun w h=>qXk hz h.1.1.size) (qBr rfl (by (try simp only [qW7]);(try simp only [qXg,qXq]);omega)),?_⟩;refine ⟨jJ rfl (rq (Is ?v39x11) none [] [(1,.pointer (some ⟨w.heap.size,0,none⟩))] ⟨⟨by kernel_rfl,rfl⟩,trivial⟩ ?_),?_⟩
              ·intro a w1 hCC e1
               have hC:=hCC.1.1;have hD:=hCC.1.2;clear hCC;refine Or.inl ⟨_,?_,rfl⟩;go_simp
               all_goals (first | (go_bits;rfl) | rfl | (rw [if_pos (by omega)]))
              refine ⟨jJ rfl (rq (Is (.slice (some ⟨b,off,none⟩) ne ce)) none [(some 174,Is ?v39x11)] [] trivial ?_),?_⟩
              ·intro a w1 hCC (h11:a.tmps.getD 174 undef=_)
               have hC:=hCC.1.1;have hD:=hCC.1.2;clear hCC;refine Or.inl ⟨.slice (some ⟨b,off,none⟩) ne ce,?_,rfl⟩;have f0:=(hC.cell (p:=⟨w.heap.size,10,none⟩) hpz).trans (HX.out.cell 10 _ rfl)
               try simp only [qXd] at f0
               go_simp
              refine ⟨jJ rfl (rq (Is ?v39x13) none [] [(12,.int .i64 k)] ⟨⟨by kernel_rfl,rfl⟩,trivial⟩ ?_),?_⟩
              ·intro a w1 hCC e12
               have hC:=hCC.1.1;have hD:=hCC.1.2;clear hCC;refine Or.inl ⟨_,?_,rfl⟩;go_simp
               all_goals (first | (go_bits;rfl) | rfl | (rw [if_pos (by omega)]))
              refine ⟨jJ rfl (rq (Is ?v39x14) none [(some 175,Is (.slice (some ⟨b,off,none⟩) ne ce)),(some 176,Is ?v39x13)] [] trivial ?_),?_⟩
              ·intro a w1 hCC (h12:a.tmps.getD 175 undef=_) (h13:a.tmps.getD 176 undef=_)
               have hC:=hCC.1.1;have hD:=hCC.1.2;clear hCC;refine Or.inl ⟨_,?_,rfl⟩;go_simp
               all_goals (first | (go_bits;rfl) | rfl | (rw [if_pos (by omega)]))
              refine ⟨jJ rfl (rq (Is ?v39x15) none [(some 177,Is ?v39x14)] [] trivial ?_),?_⟩
              ·intro a w1 hCC (h14:a.tmps.getD 177 undef=_)
               have hC:=hCC.1.1;have hD:=hCC.1.2;clear hCC;refine Or.inl ⟨_,?_,rfl⟩;go_simp
               all_goals (first | (go_bits;rfl) | rfl | (rw [if_pos (by omega)]))
              refine ⟨jJ rfl (rq (Is (.int .i64 y2)) none [(some 178,Is ?v39x15)] [] trivial ?_),?_⟩
              ·intro a w1 hCC (h15:a.tmps.getD 178 undef=_)
               have hC:=hCC.1.1;have hD:=hCC.1.2;clear hCC;refine Or.inl ⟨.int .i64 y2,?_,rfl⟩;have f0:=(hC.cell (p:=⟨b,off + k * 2 + 1,none⟩) hbz).trans (HE1.out)
               try simp only [qXd] at f0
               go_simp
              refine ⟨jJ rfl (rq (fcF 5 z (.rd vs)) none [(some 179,Is (.int .i64 y2)),(some 173,fun _ _=>True)] [] trivial ?_),?_⟩
              ·intro a w1 hCC (h16:a.tmps.getD 179 undef=_) _
               have hC:=hCC.1.1;have hD:=hCC.1.2;clear hCC;refine Or.inr (Or.inl ⟨52,#[.int .i64 y2],?_,?_⟩)
               ·go_simp
               ·refine (xC y2 w1 (by omega) (by omega)).mono ?_
                rintro e w2 ⟨vv,rfl,hown,hbel⟩;rw [HVS.out] at hown;obtain ⟨ao1,cap1,rfl,hrd⟩:=hown.rd;exact ⟨_,rfl,⟨ao1,cap1,rfl,hrd⟩,hbel⟩
              refine ⟨xG (o:=⟨_,_,_,_,_,_⟩) (d:=181) (sa:=173) (sb:=180) (t:=37) (j0:=10) (j1:=17) rfl rfl rfl rfl Tryz.underlying37 qG (by kernel_rfl) (by kernel_rfl) (by kernel_rfl) (by kernel_rfl) rfl rfl rfl (.inl rfl) rfl (by (try simp only [qW7]);(try simp only [qXg,qXq]);rw [HYL.out];omega) (fun w h=>qXk hz h.1.1.size) (qBr rfl (by (try simp only [qW7]);(try simp only [qXg,qXq]);omega)),?_⟩;refine ⟨jJ rfl (rq (fcF 5 z (.own (ys ++ us ++ [0] ++ vs))) none [(some 181,fcF 5 z (.own (ys ++ us ++ [0] ++ vs))),(some 181,fcF 5 z (.own (ys ++ us ++ [0] ++ vs))),(some 163,fun _ _=>True),(some 164,fun _ _=>True),(some 165,fun _ _=>True),(some 166,fun _ _=>True),(some 167,fun _ _=>True),(some 168,fun _ _=>True),(some 169,fun _ _=>True),(some 170,fun _ _=>True),(some 171,fun _ _=>True),(some 172,fun _ _=>True),(some 173,fun _ _=>True),(some 174,fun _ _=>True),(some 175,fun _ _=>True),(some 176,fun _ _=>True),(some 177,fun _ _=>True),(some 178,fun _ _=>True),(some 179,fun _ _=>True),(some 180,fun _ _=>True),(some 181,fcF 5 z (.own (ys ++ us ++ [0] ++ vs)))] [] trivial ?_),?_⟩
              ·intro a w1 hCC h18 h18 _ _ _ _ _ _ _ _ _ _ _ _ _ _ _ _ _ _ h18
               have hC:=hCC.1.1;have hD:=hCC.1.2;clear hCC;refine Or.inl ⟨_,?_,h18⟩;go_simp
               all_goals simp [zZ]
              exact trivial
             case hz=>exact hz
             case hok=>kernel_rfl
             case hlz=>exact ⟨rfl,trivial⟩
             case hla=>kernel_rfl
             case hfi=>kernel_rfl
             case hend =>
              rintro w1 ⟨hC,_⟩;rintro _ rfl;rintro _ rfl;rintro _ rfl;rintro _ rfl;rintro _ rfl;rintro _ rfl;rintro _ rfl;intro x7 _;intro x8 _;intro x9 _;intro x10 _;rintro _ rfl;rintro _ rfl;rintro _ rfl;rintro _ rfl;rintro _ rfl;rintro _ rfl;intro x17 _;intro x18 _;intro xf hf;simp only [xV,Act.put,qXj,qXp,qXo];have HO5:=hid hf;have HB5:=hid hC
              have hfin:(E.take (k + 1)).flatMap exE=ys ++ us ++ [0] ++ vs:=by
               rw [HTF.out,<- HYS.out,exE,HUS.out,HVS.out];simp
              have HFIN:=hid hfin;clear hfin;go_wp2_with fail;go_roundw
              case rel=>exact ⟨k + 1,by omega,by go_num,by rw [HFIN.out];exact HO5.out,HBR.out.trans HB5.out⟩
              case measure=>simp [intOf];omega
            ·
             have e0:k=ne:=by omega
             subst e0;rw [qW9 (by rw [HLe.out];exact qW8 _)] at HYS;go_wp2_with fail;have hss:E.length <= 32:=by rw [HLe.out];omega
             refine (jO 7 (by decide) _ yo yl yc ys wr (by omega) HRY.out (by omega)).mono ?_;rintro e w5 ⟨v5,rfl,h5,b5⟩;rw [qAe 7 exE E _ ys HLe.out HYS.out] at h5;have hsl:=yF 7 exE E;rw [<- HYS.out,HYL.out] at hsl
             obtain ⟨te,hte⟩:∃ q,qL 7 exE E=q:=⟨_,rfl⟩
             rw [hte] at h5 hsl;have HTe:=hid hte;obtain ⟨so,sc,rfl,hrs⟩:=h5.rd;have HRS:=hid hrs;have h56:=b5.size;have hz5:w0.heap.size <= w5.heap.size:=by have:=HB.out.size;have:=HZ.out;omega
             have HB5:=hid (HB.out.trans ((HBR.out.trans (b5.mono hsr)).mono (show w0.heap.size <= z by have:=HB.out.size;rw [HZ.out] at this;exact this)));have HBO5:=hid ((HBO.out.below (HBR.out.trans (b5.mono hsr)) (by rw [HZ.out];exact qW8 _)));clear h5 b5 hte hrs
             go_wp2_with (at_builtin;refine qA rfl (.tmp 182) (.tmp 187) 37 rfl 5 .u8 w0.heap.size 1 Tryz.underlying37 qG _ bs rfl HBO5.out so _ sc te rfl HRS.out (by omega) (by omega) hz5 ?_;intro v6 w6 o6 b6 _;have hxx:=HX0.out.keep (show w.heap.size < w0.heap.size by rw [HZ0.out];omega) (HB5.out.trans b6);have g0:=hxx.cell 0 _ rfl;have g1:=hxx.cell 1 _ rfl;have g2:=hxx.cell 2 _ rfl;have g3:=hxx.cell 3 _ rfl;have g4:=hxx.cell 4 _ rfl;have g5:=hxx.cell 5 _ rfl;have g6:=hxx.cell 6 _ rfl;have g7:=hxx.cell 7 _ rfl;have g8:=hxx.cell 8 _ rfl;have g9:=hxx.cell 9 _ rfl;have g10:=hxx.cell 10 _ rfl;have g11:=hxx.cell 11 _ rfl;have g12:=hxx.cell 12 _ rfl;have g13:=hxx.cell 13 _ rfl;clear hxx;have HO6:=hid o6;have HB6:=hid b6;clear o6 b6)
             have HBn:=hid (HB5.out.trans HB6.out);have hbn:(bs ++ te).length <= 10 + 7 * 4000000000:=by rw [qW7];omega
             obtain ⟨bs2,hbs2⟩:∃ q,bs ++ te=q:=⟨_,rfl⟩
             rw [hbs2] at HO6 hbn;have HCe:=hid hbs2;clear hbs2 HB5 HBO5 HB6 HRS h56 hz5 hsl hss f0_0 l0_0 HX HBW HRY HYL HO HYS hel HBR hsr HZ hzz HB HBO hkn hk hbl
             obtain ⟨wo,rfl⟩:∃ wo:World,wo=ws:=⟨_,rfl⟩
             obtain ⟨wo2,rfl⟩:∃ wo:World,wo=wr:=⟨_,rfl⟩
             obtain ⟨zo,rfl⟩:∃ q:Nat,q=z:=⟨_,rfl⟩
             obtain ⟨bse,rfl⟩:∃ q:List Int,q=bs:=⟨_,rfl⟩
             obtain ⟨ws,rfl⟩:∃ q:World,q=w6:=⟨_,rfl⟩
             obtain ⟨bs,rfl⟩:∃ q:List Int,q=bs2:=⟨_,rfl⟩
             have HB:=HBn;have HBO:=HO6;have hbl:=hbn;clear HBn HO6 hbn;have hbw:=HB0.out.trans (HB.out.mono (show w.heap.size <= w0.heap.size by rw [HZ0.out];omega));have hlat:=qIu _ _ ws (HH.out.below hbw) HHc.out HHp.out;simp only [MoV.cells] at hlat;refine hlat.mono ?_;rintro e w5 ⟨v5,rfl,h5,b5⟩;have hll:=qN6 (M:=⟨T,I,F,⟨th,tm,tx⟩,⟨mh,mm,mx⟩,G,E,L,C,D⟩) HHc.out HHp.out
             obtain ⟨lt,hlt⟩:∃ q,qL 9 elE L ++ (qL 10 coE C ++ qL 11 daE D)=q:=⟨_,rfl⟩
             dsimp only at h5 hll;rw [hlt] at h5 hll;have HLT:=hid hlt;obtain ⟨so,sc,rfl,hrs⟩:=h5.rd;have HRS:=hid hrs;have HBO5:=hid (HBO.out.below b5 (qW8 _));have HB5:=hid (HB.out.trans (b5.mono HB.out.size));have hz5:w0.heap.size <= w5.heap.size:=HB5.out.size
             obtain ⟨ll,hlll⟩:∃ q,lt.length=q:=⟨_,rfl⟩
             rw [hlll] at HRS hll ⊢;clear h5 b5 hlt hrs hlll hbw hlat g0 g1 g2 g3 g4 g5 g6 g7 g8 g9 g10 g11 g12 g13
             go_wp2_with (at_builtin;refine qA rfl (.tmp 189) (.tmp 191) 37 rfl 5 .u8 w0.heap.size 1 Tryz.underlying37 qG _ bs rfl HBO5.out so _ sc lt rfl HRS.out (by omega) (by omega) hz5 ?_;intro v6 w6 o6 b6 _;have HO6:=hid o6;have HB6:=hid b6;clear o6 b6)
             have hfin:bs ++ lt=moE ⟨T,I,F,⟨th,tm,tx⟩,⟨mh,mm,mx⟩,G,E,L,C,D⟩:=by rw [<- HCe.out,<- HCg.out,<- HCme.out,<- HCta.out,<- HCf.out,<- HCi.out,<- HCt.out,HBS.out];unfold moE;dsimp only;rw [HTt.out,HTi.out,HTf.out,HTta.out,HTme.out,HTg.out,HTe.out,HLT.out];simp only [qXe]
             rw [hfin] at HO6;go_ret;exact ⟨_,rfl,HO6.out.lift (by rw [HZ0.out];omega),HB0.out.trans ((HB5.out.trans HB6.out).mono (by rw [HZ0.out];omega))⟩
end Go.Proofs.YtbkofpljchkkaaaGreat
