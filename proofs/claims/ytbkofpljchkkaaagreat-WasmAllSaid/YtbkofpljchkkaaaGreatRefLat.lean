/- Words: RefLat. -/
import Derived.Deep.RegionLaw
import Derived.Test.YtbkofpljchkkaaaGreatRefLo
import Derived.Test.YtbkofpljchkkaaaGreatRefLim
import Derived.Test.YtbkofpljchkkaaaGreatRefByM
import Derived.Test.YtbkofpljchkkaaaGreatSpine
import Derived.Test.YtbkofpljchkkaaaGreatWB
import Derived.Test.YtbkofpljchkkaaaGreatKE
set_option maxRecDepth 100000
set_option maxHeartbeats 8000000
namespace Go.Proofs.YtbkofpljchkkaaaGreat
open Go.RowKit
theorem qAe {α:Type} (id:Int) (f:α -> List Int) (X:List α) (n:Nat) (ys:List Int) (h:X.length=n) (hy:ys=X.flatMap f):(if n=0 then [] else id :: szE (jG n ++ ys))=qL id f X:=by
 subst h hy
 cases X with
 | nil=>rfl
 | cons a r=>rw [if_neg (by simp)];rfl
theorem yF {α:Type} (id:Int) (f:α -> List Int) (X:List α):(qL id f X).length <= 200000001 + (X.flatMap f).length:=by
 cases X with
 | nil=>simp [qL]
 | cons a r =>
   have h1:=j9 ((a :: r).length:Int);have h2:=j9 ((qT f (a :: r)).length:Int);unfold jG at h1 h2;simp only [qL,szE,qXg,qW7];unfold qT at h2 ⊢;simp only [qW7,qXg] at h1 h2 ⊢;omega
theorem qOf (x:MDa) (h:zG x=true):(daE x).length <= 100010000:=by
 unfold zG at h;simp only [qXi,decide_eq_true_eq] at h;have h1:=yC 1 x.off;have h2:=qE 9 ((x.bs.length:Nat):Int);unfold daE szE;simp only [qXg,qW7];omega
theorem qIt (x:MCo) (h:zM x=true):(coE x).length <= 100010000:=by
 unfold zM qAm at h;simp only [qXi,decide_eq_true_eq] at h;have h1:=qJn x.ls h.1.1;have h2:=qA6 x.body (fun I hI=>qXb.1 h.2.2 I hI);have h3:=qIc h.2.1;rw [j3] at h3;have h4:(jN x.body).length <= 300 * 20001:=qXk h2 (qXl _ h3);unfold coE szE;have h5:=qE 9 (((qT ruE (zV x.ls) ++ (jN x.body ++ [11])).length:Nat):Int);rw [qW7] at h5 ⊢;simp only [qW7,qXg,qXq] at h5 ⊢;omega
theorem qIu (V:MoV) (M:MMo) (w:World) (h:Rx w (MoR V M)) (hc:qF0 M=true) (hp:qV M=true) :
    Calls Tryz.prog 56 #[.agg (V.cells M).toArray] w fun e w'=>∃ v,e=.returned v /\ Own 5 .u8 w.heap.size w' v (qL 9 elE M.elems ++ (qL 10 coE M.codes ++ qL 11 daE M.datas)) /\ Below w.heap.size w w':=by
 obtain ⟨⟨ot,nt,ct⟩,⟨oi,ni,ci⟩,⟨of,nf,cf⟩,⟨og,ng,cg⟩,⟨oe,ne,ce⟩,⟨ol,nl,cl⟩,⟨oc,nc,cc⟩,⟨od,nd,cd⟩⟩:=V
 obtain ⟨T,I,F,⟨th,tm,tx⟩,⟨mh,mm,mx⟩,G,E,L,C,D⟩:=M
 simp only [qF0,qV,qXi,decide_eq_true_eq] at hc hp
 obtain ⟨⟨⟨⟨⟨⟨⟨hcT,hcI⟩,hcF⟩,hcG⟩,hcE⟩,hcL⟩,hcC⟩,hcD⟩:=hc
 obtain ⟨⟨⟨⟨⟨⟨⟨⟨⟨hpT,hpI⟩,hpF⟩,hpt⟩,hpm⟩,hpG⟩,hpE⟩,hpL⟩,hpC⟩,hpD⟩:=hp
 simp only [MoV.cells]
 have HQl:Hid (Rx w fun w=>RdG 2 ElR w ol nl cl L):=hid (h.imp fun _ h=>h.l)
 have HLl:Hid (L.length=nl):=hid h.now.l.len
 have hnl:nl <= 32:=by rw [<- HLl.out];omega
 have HPl:=hid hpL
 have HQc:Hid (Rx w fun w=>RdG 2 CoR w oc nc cc C):=hid (h.imp fun _ h=>h.c)
 have HLc:Hid (C.length=nc):=hid h.now.c.len
 have hnc:nc <= 32:=by rw [<- HLc.out];omega
 have HPc:=hid hpC
 have HQd:Hid (Rx w fun w=>RdG 2 DaR w od nd cd D):=hid (h.imp fun _ h=>h.d)
 have HLd:Hid (D.length=nd):=hid h.now.d.len
 have hnd:nd <= 32:=by rw [<- HLd.out];omega
 have HPd:=hid hpD
 have hb0:Below w.heap.size w (w.alloc (.cells #[.slice ot nt ct,.slice oi ni ci,.slice of nf cf,.bool th,.int .i64 tm,.int .i64 tx,.bool mh,.int .i64 mm,.int .i64 mx,.slice og ng cg,.slice oe ne ce,.slice ol nl cl,.slice oc nc cc,.slice od nd cd] 33)):=Bl.alloc (Bl.refl w) _
 have hx0:=Cel.new w [.slice ot nt ct,.slice oi ni ci,.slice of nf cf,.bool th,.int .i64 tm,.int .i64 tx,.bool mh,.int .i64 mm,.int .i64 mx,.slice og ng cg,.slice oe ne ce,.slice ol nl cl,.slice oc nc cc,.slice od nd cd] 33
 have hz0:(w.alloc (.cells #[.slice ot nt ct,.slice oi ni ci,.slice of nf cf,.bool th,.int .i64 tm,.int .i64 tx,.bool mh,.int .i64 mm,.int .i64 mx,.slice og ng cg,.slice oe ne ce,.slice ol nl cl,.slice oc nc cc,.slice od nd cd] 33)).heap.size=w.heap.size + 1:=by simp
 obtain ⟨w0,hw0⟩:∃ w0,w.alloc (.cells #[.slice ot nt ct,.slice oi ni ci,.slice of nf cf,.bool th,.int .i64 tm,.int .i64 tx,.bool mh,.int .i64 mm,.int .i64 mx,.slice og ng cg,.slice oe ne ce,.slice ol nl cl,.slice oc nc cc,.slice od nd cd] 33)=w0:=⟨_,rfl⟩
 have hx1:Cel w0 w.heap.size [.slice ot nt ct,.slice oi ni ci,.slice of nf cf,.bool th,.int .i64 tm,.int .i64 tx,.bool mh,.int .i64 mm,.int .i64 mx,.slice og ng cg,.slice oe ne ce,.slice ol nl cl,.slice oc nc cc,.slice od nd cd]:=by rw [<- hw0];exact hx0
 rw [hw0] at hb0 hz0
 have HB0:=hid hb0
 have HX0:=hid hx1
 have HZ0:=hid hz0
 have HW0:=hid hw0
 clear h hcT hcI hcF hcG hcE hcL hcD hcC hpT hpI hpF hpG hpE hpL hpC hpD hb0 hx0 hx1 hz0 hw0 hpt hpm
 go_enter Tryz.func56,Tryz.ntmps56
 go_wp2_with fail
 rw [HW0.out]
 obtain ⟨ws,hws⟩:∃ ws,w0=ws:=⟨_,rfl⟩
 rw [hws]
 have HB:Hid (Below w0.heap.size w0 ws):=hid (by rw [<- hws];exact qXh _ _)
 clear hws
 obtain ⟨bs,hbs⟩:∃ bs:List Int,bs=[]:=⟨_,rfl⟩
 have HBO:Hid (Own 5 .u8 w0.heap.size ws (.slice none 0 0) bs):=hid (by rw [hbs];exact Own.nil _ _ _ _)
 have hbl:bs.length <= 10:=by rw [hbs];simp
 have HBS:=hid hbs
 clear hbs
 obtain ⟨z,hz⟩:∃ z,ws.heap.size=z:=⟨_,rfl⟩
 have hzz:w.heap.size + 1 <= z:=by have:=HB.out.size;rw [HZ0.out] at this;omega
 have HZ:=hid hz
 clear hz
 go_loopw [4,5] (fun v i wr=>∃ k:Nat,k <= nl /\ i=.int .i64 k /\ Own 5 .u8 z wr v ((L.take k).flatMap elE) /\ Below z ws wr) (fun _ i _=>nl - (intOf i).toNat)
 case atStart=>exact ⟨0,qXf _,rfl,by simpa using Own.nil _ _ _ _,qXh _ _⟩
 case round =>
  obtain ⟨k,hkn,rfl,ho,hb⟩:=hrel;have hsr:z <= wr.heap.size:=by have:=hb.size;rw [HZ.out] at this;exact this
  have HO:=hid ho;have HBR:=hid hb;clear ho hb
  have hel:((L.take k).flatMap elE).length <= 32 * 100010000:=by
   have h1:=qM elE (L.take k) 100010000 (fun x hx=>qMh x (qXb.1 HPl.out x (qXs hx)));have h2:(L.take k).length <= 32:=by rw [qXu,HLl.out];omega
   exact qXk h1 (qXl 100010000 h2)
  obtain ⟨ys,hys⟩:∃ ys,ys=(L.take k).flatMap elE:=⟨_,rfl⟩
  rw [<- hys] at HO hel;have HYS:=hid hys;clear hys;obtain ⟨yo,yc,rfl,hry⟩:=HO.out.rd
  obtain ⟨yl,hyl⟩:∃ yl,ys.length=yl:=⟨_,rfl⟩
  have HRY:=hid hry;rw [hyl] at HO HRY hel ⊢;have HYL:=hid hyl;clear hry hyl;have HX:=hid (HX0.out.keep (show w.heap.size < w0.heap.size by rw [HZ0.out];omega) (HB.out.trans (HBR.out.mono (show w0.heap.size <= z by rw [HZ0.out];omega))));have HBW:=hid (HB0.out.trans ((HB.out.trans (HBR.out.mono (show w0.heap.size <= z by rw [HZ0.out];omega))).mono (show w.heap.size <= w0.heap.size by rw [HZ0.out];omega)));have f0_0:=HX.out.cell 11 _ rfl;have l0_0:w.heap.size < wr.heap.size:=by omega
  by_cases hk:k < nl
  ·
   obtain ⟨x,hx⟩:∃ x,L[k]?=some x:=⟨L[k]'(by rw [HLl.out];omega),qW6 (by rw [HLl.out];omega)⟩
   have HMY:=hid (qXb.1 HPl.out x (qXa hx));have HTF:=hid (jI elE L k x hx);obtain ⟨b,off,cs,rfl,hcl,hRR,hcw⟩:=RdG.elem HQl.out hx;have hbw:b < w.heap.size:=qXc w _ (hcw 0 cs[0] (qW6 (by omega)));have hcc:=fun j v hj=>(HBW.out.cell (p:=⟨b,off + k * 2 + j,none⟩) hbw).trans (hcw j v hj)
   have hwz:w.heap.size <= z:=by omega
   have hbz:b < z:=by omega
   have hpz:w.heap.size < z:=by omega
   obtain ⟨y1,y2⟩:=x;have hmy:=HMY.out;unfold zT at hmy;simp only [qXi,decide_eq_true_eq] at hmy;obtain ⟨⟨hmo,hml⟩,hma⟩:=hmy;obtain ⟨a2,m2,k2,rfl,hr2⟩:=hRR.now;have HR2:=hid hr2;have f0_1:=hcc 0 _ rfl;have f0_2:=hcc 1 _ rfl;have HE0:=hid f0_1;have HE1:=hid f0_2;have l0_1:b < wr.heap.size:=by omega
   have hm2:m2 <= 50:=by rw [<- hr2.len];exact hml
   have HMO:=hid hmo;have hnn:∀ x ∈ y2,0 <= x:=fun x hx=>by have:=qXb.1 hma x hx;simp [jQ] at this;exact this.1
   have HNN:=hid hnn;have hyo:-9223372036854775808 <= y1 /\ y1 <= 9223372036854775807:=by unfold j6 at hmo;simp at hmo;omega
   have HYO:=hid hyo;have hl1:=yC 1 y1;have hl2:=qI6 y2 50 hml
   obtain ⟨us,hus⟩:∃ us,qBk 1 y1=us:=⟨_,rfl⟩
   obtain ⟨vs,hvs⟩:∃ vs,qT jG y2=vs:=⟨_,rfl⟩
   rw [hus] at hl1;rw [hvs] at hl2;have HUS:=hid hus;have HVS:=hid hvs;clear hcc hcw hRR hx hcl hr2 hmo hma hml hnn hyo hus hvs;have hz:=hsr;go_wp2_with fail;clear f0_0 f0_1 f0_2 l0_0 l0_1;refine xU (E:=5) (z:=z) (by kernel_rfl) 2 (.slice yo yl yc) (ys) (HO.out) ?hz [.is (.slice yo yl yc),.rd [0],.own (ys ++ [0]),.is ?v5x3,.is (.slice (some ⟨b,off,none⟩) nl cl),.is ?v5x5,.is ?v5x6,.is ?v5x7,.is (.int .i64 y1),.is (.agg #[.int .i64 1,.int .i64 y1]),.rd us,.own (ys ++ [0] ++ us),.is ?v5x12,.is (.slice (some ⟨b,off,none⟩) nl cl),.is ?v5x14,.is ?v5x15,.is ?v5x16,.is (.slice a2 m2 k2),.rd vs,.own (ys ++ [0] ++ us ++ vs)] ((ys ++ [0] ++ us ++ vs)) [(2,ys),(11,(ys ++ [0])),(19,(ys ++ [0] ++ us))] [0,1,2,3,4,5,6,7,8,9,10,11,12,13,14,15,16,17,18,19,20] rfl (by kernel_rfl) rfl ?hop ?hok ?hla ?hfi ?hend
   case hop =>
    refine ⟨qY rfl (rq (Is (.slice yo yl yc)) none [] [(4,.slice yo yl yc)] ⟨⟨by kernel_rfl,rfl⟩,trivial⟩ ?_),?_⟩
    ·intro a w1 hCC e4
     have hC:=hCC.1;clear hCC;refine Or.inl ⟨(.slice yo yl yc),?_,rfl⟩;go_simp
     all_goals (first | rfl | (go_bits;rfl))
    refine ⟨qY rfl (rq (fcF 5 z (.rd [0])) none [] [] trivial ?_),?_⟩
    ·intro a w1 hCC
     have hC:=hCC.1;clear hCC;refine Or.inr (Or.inr ⟨.slice (some ⟨w1.heap.size,0,none⟩) 1 1,w1.alloc (.cells #[.int .u8 0] 5),?_,⟨_,_,rfl,Rd.built _ _ _ _ (by decide)⟩,Bl.alloc (Bl.refl _) _⟩);go_simp
    refine ⟨uV (o:=⟨_,_,_,_,_,_⟩) (d:=18) (sa:=16) (sb:=17) (t:=37) (j0:=0) (j1:=1) (v0:=.slice yo yl yc) (xs:=ys) rfl rfl rfl rfl Tryz.underlying37 qG (by kernel_rfl) (by kernel_rfl) (by kernel_rfl) (by kernel_rfl) rfl rfl rfl (.inl rfl) rfl (by (try simp only [qW7]);(try simp only [qXg,qXq]);rw [HYL.out];omega) (fun w h=>qXk hz h.1.size) (fun w h=>h.2 rfl) (qFv rfl),?_⟩;refine ⟨qY rfl (rq (Is ?v5x3) none [] [(1,.pointer (some ⟨w.heap.size,0,none⟩))] ⟨⟨by kernel_rfl,rfl⟩,trivial⟩ ?_),?_⟩
    ·intro a w1 hCC e1
     have hC:=hCC.1;clear hCC;refine Or.inl ⟨_,?_,rfl⟩;go_simp
     all_goals (first | (go_bits;rfl) | rfl | (rw [if_pos (by omega)]))
    refine ⟨qY rfl (rq (Is (.slice (some ⟨b,off,none⟩) nl cl)) none [(some 19,Is ?v5x3)] [] trivial ?_),?_⟩
    ·intro a w1 hCC (h3:a.tmps.getD 19 undef=_)
     have hC:=hCC.1;clear hCC;refine Or.inl ⟨.slice (some ⟨b,off,none⟩) nl cl,?_,rfl⟩;have f0:=(hC.cell (p:=⟨w.heap.size,11,none⟩) hpz).trans (HX.out.cell 11 _ rfl);go_simp
    refine ⟨qY rfl (rq (Is ?v5x5) none [] [(5,.int .i64 k)] ⟨⟨by kernel_rfl,rfl⟩,trivial⟩ ?_),?_⟩
    ·intro a w1 hCC e5
     have hC:=hCC.1;clear hCC;refine Or.inl ⟨_,?_,rfl⟩;go_simp
     all_goals (first | (go_bits;rfl) | rfl | (rw [if_pos (by omega)]))
    refine ⟨qY rfl (rq (Is ?v5x6) none [(some 20,Is (.slice (some ⟨b,off,none⟩) nl cl)),(some 21,Is ?v5x5)] [] trivial ?_),?_⟩
    ·intro a w1 hCC (h4:a.tmps.getD 20 undef=_) (h5:a.tmps.getD 21 undef=_)
     have hC:=hCC.1;clear hCC;refine Or.inl ⟨_,?_,rfl⟩;go_simp
     all_goals (first | (go_bits;rfl) | rfl | (rw [if_pos (by omega)]))
    refine ⟨qY rfl (rq (Is ?v5x7) none [(some 22,Is ?v5x6)] [] trivial ?_),?_⟩
    ·intro a w1 hCC (h6:a.tmps.getD 22 undef=_)
     have hC:=hCC.1;clear hCC;refine Or.inl ⟨_,?_,rfl⟩;go_simp
     all_goals (first | (go_bits;rfl) | rfl | (rw [if_pos (by omega)]))
    refine ⟨qY rfl (rq (Is (.int .i64 y1)) none [(some 23,Is ?v5x7)] [] trivial ?_),?_⟩
    ·intro a w1 hCC (h7:a.tmps.getD 23 undef=_)
     have hC:=hCC.1;clear hCC;refine Or.inl ⟨.int .i64 y1,?_,rfl⟩;have f0:=(hC.cell (p:=⟨b,off + k * 2 + 0,none⟩) hbz).trans (HE0.out)
     try simp only [qXd] at f0
     go_simp
    refine ⟨qY rfl (rq (Is (.agg #[.int .i64 1,.int .i64 y1])) none [(some 24,Is (.int .i64 y1))] [] trivial ?_),?_⟩
    ·intro a w1 hCC (h8:a.tmps.getD 24 undef=_)
     have hC:=hCC.1;clear hCC;refine Or.inl ⟨.agg #[.int .i64 1,.int .i64 y1],?_,rfl⟩;have h8z:a.tmps[24]?.getD undef=.int .i64 y1:=by simpa using h8
     go_simp
    refine ⟨qY rfl (rq (fcF 5 z (.rd us)) none [(some 25,Is (.agg #[.int .i64 1,.int .i64 y1])),(some 18,fun _ _=>True)] [] trivial ?_),?_⟩
    ·intro a w1 hCC (h9:a.tmps.getD 25 undef=_) _
     have hC:=hCC.1;clear hCC;refine Or.inr (Or.inl ⟨55,#[.agg #[.int .i64 1,.int .i64 y1]],?_,?_⟩)
     ·go_simp
     ·refine (yO 1 y1 w1 HMO.out HYO.out).mono ?_
      rintro e w2 ⟨vv,rfl,hown,hbel⟩;rw [HUS.out] at hown;obtain ⟨ao1,cap1,rfl,hrd⟩:=hown.rd;exact ⟨_,rfl,⟨ao1,cap1,rfl,hrd⟩,hbel⟩
    refine ⟨xG (o:=⟨_,_,_,_,_,_⟩) (d:=27) (sa:=18) (sb:=26) (t:=37) (j0:=2) (j1:=10) rfl rfl rfl rfl Tryz.underlying37 qG (by kernel_rfl) (by kernel_rfl) (by kernel_rfl) (by kernel_rfl) rfl rfl rfl (.inl rfl) rfl (by (try simp only [qW7]);(try simp only [qXg,qXq]);rw [HYL.out];omega) (fun w h=>qXk hz h.1.size) (qAq rfl),?_⟩;refine ⟨qY rfl (rq (Is ?v5x12) none [] [(1,.pointer (some ⟨w.heap.size,0,none⟩))] ⟨⟨by kernel_rfl,rfl⟩,trivial⟩ ?_),?_⟩
    ·intro a w1 hCC e1
     have hC:=hCC.1;clear hCC;refine Or.inl ⟨_,?_,rfl⟩;go_simp
     all_goals (first | (go_bits;rfl) | rfl | (rw [if_pos (by omega)]))
    refine ⟨qY rfl (rq (Is (.slice (some ⟨b,off,none⟩) nl cl)) none [(some 28,Is ?v5x12)] [] trivial ?_),?_⟩
    ·intro a w1 hCC (h12:a.tmps.getD 28 undef=_)
     have hC:=hCC.1;clear hCC;refine Or.inl ⟨.slice (some ⟨b,off,none⟩) nl cl,?_,rfl⟩;have f0:=(hC.cell (p:=⟨w.heap.size,11,none⟩) hpz).trans (HX.out.cell 11 _ rfl);go_simp
    refine ⟨qY rfl (rq (Is ?v5x14) none [] [(5,.int .i64 k)] ⟨⟨by kernel_rfl,rfl⟩,trivial⟩ ?_),?_⟩
    ·intro a w1 hCC e5
     have hC:=hCC.1;clear hCC;refine Or.inl ⟨_,?_,rfl⟩;go_simp
     all_goals (first | (go_bits;rfl) | rfl | (rw [if_pos (by omega)]))
    refine ⟨qY rfl (rq (Is ?v5x15) none [(some 29,Is (.slice (some ⟨b,off,none⟩) nl cl)),(some 30,Is ?v5x14)] [] trivial ?_),?_⟩
    ·intro a w1 hCC (h13:a.tmps.getD 29 undef=_) (h14:a.tmps.getD 30 undef=_)
     have hC:=hCC.1;clear hCC;refine Or.inl ⟨_,?_,rfl⟩;go_simp
     all_goals (first | (go_bits;rfl) | rfl | (rw [if_pos (by omega)]))
    refine ⟨qY rfl (rq (Is ?v5x16) none [(some 31,Is ?v5x15)] [] trivial ?_),?_⟩
    ·intro a w1 hCC (h15:a.tmps.getD 31 undef=_)
     have hC:=hCC.1;clear hCC;refine Or.inl ⟨_,?_,rfl⟩;go_simp
     all_goals (first | (go_bits;rfl) | rfl | (rw [if_pos (by omega)]))
    refine ⟨qY rfl (rq (Is (.slice a2 m2 k2)) none [(some 32,Is ?v5x16)] [] trivial ?_),?_⟩
    ·intro a w1 hCC (h16:a.tmps.getD 32 undef=_)
     have hC:=hCC.1;clear hCC;refine Or.inl ⟨.slice a2 m2 k2,?_,rfl⟩;have f0:=(hC.cell (p:=⟨b,off + k * 2 + 1,none⟩) hbz).trans (HE1.out)
     try simp only [qXd] at f0
     go_simp
    refine ⟨qY rfl (rq (fcF 5 z (.rd vs)) none [(some 33,Is (.slice a2 m2 k2)),(some 27,fun _ _=>True)] [] trivial ?_),?_⟩
    ·intro a w1 hCC (h17:a.tmps.getD 33 undef=_) _
     have hC:=hCC.1;clear hCC;refine Or.inr (Or.inl ⟨126,#[.slice a2 m2 k2],?_,?_⟩)
     ·go_simp
     ·refine (qFg a2 m2 k2 y2 w1 (HR2.out.below (HBW.out.trans (hC.mono hwz))) (qXk hm2 (by decide)) HNN.out).mono ?_
      rintro e w2 ⟨vv,rfl,hown,hbel⟩;rw [HVS.out] at hown;obtain ⟨ao1,cap1,rfl,hrd⟩:=hown.rd;exact ⟨_,rfl,⟨ao1,cap1,rfl,hrd⟩,hbel⟩
    refine ⟨xG (o:=⟨_,_,_,_,_,_⟩) (d:=35) (sa:=27) (sb:=34) (t:=37) (j0:=11) (j1:=18) rfl rfl rfl rfl Tryz.underlying37 qG (by kernel_rfl) (by kernel_rfl) (by kernel_rfl) (by kernel_rfl) rfl rfl rfl (.inl rfl) rfl (by (try simp only [qW7]);(try simp only [qXg,qXq]);rw [HYL.out];omega) (fun w h=>qXk hz h.1.size) (qAq rfl),?_⟩;refine ⟨qY rfl (rq (fcF 5 z (.own (ys ++ [0] ++ us ++ vs))) none [(some 35,fcF 5 z (.own (ys ++ [0] ++ us ++ vs))),(some 35,fcF 5 z (.own (ys ++ [0] ++ us ++ vs))),(some 16,fun _ _=>True),(some 17,fun _ _=>True),(some 18,fun _ _=>True),(some 19,fun _ _=>True),(some 20,fun _ _=>True),(some 21,fun _ _=>True),(some 22,fun _ _=>True),(some 23,fun _ _=>True),(some 24,fun _ _=>True),(some 25,fun _ _=>True),(some 26,fun _ _=>True),(some 27,fun _ _=>True),(some 28,fun _ _=>True),(some 29,fun _ _=>True),(some 30,fun _ _=>True),(some 31,fun _ _=>True),(some 32,fun _ _=>True),(some 33,fun _ _=>True),(some 34,fun _ _=>True),(some 35,fcF 5 z (.own (ys ++ [0] ++ us ++ vs)))] [] trivial ?_),?_⟩
    ·intro a w1 hCC h19 h19 _ _ _ _ _ _ _ _ _ _ _ _ _ _ _ _ _ _ _ h19
     have hC:=hCC.1;clear hCC;refine Or.inl ⟨_,?_,h19⟩;go_simp
     all_goals simp [zZ]
    exact trivial
   case hz=>exact hz
   case hok=>kernel_rfl
   case hla=>kernel_rfl
   case hfi=>kernel_rfl
   case hend =>
    intro w1 hC;rintro _ rfl;intro x1 _;intro x2 _;rintro _ rfl;rintro _ rfl;rintro _ rfl;rintro _ rfl;rintro _ rfl;rintro _ rfl;rintro _ rfl;intro x10 _;intro x11 _;rintro _ rfl;rintro _ rfl;rintro _ rfl;rintro _ rfl;rintro _ rfl;rintro _ rfl;intro x18 _;intro x19 _;intro xf hf;simp only [xV,Act.put,qXj,qXp,qXo];have HO5:=hid hf;have HB5:=hid hC
    have hfin:(L.take (k + 1)).flatMap elE=ys ++ [0] ++ us ++ vs:=by
     rw [HTF.out,<- HYS.out,elE,HUS.out,HVS.out];simp
    have HFIN:=hid hfin;clear hfin;go_wp2_with fail;go_roundw
    case rel=>exact ⟨k + 1,by omega,by go_num,by rw [HFIN.out];exact HO5.out,HBR.out.trans HB5.out⟩
    case measure=>simp [intOf];omega
  ·
   have e0:k=nl:=by omega
   subst e0;rw [qW9 (by rw [HLl.out];exact qW8 _)] at HYS;go_wp2_with fail;have hss:L.length <= 32:=by rw [HLl.out];omega
   refine (jO 9 (by decide) _ yo yl yc ys wr (by omega) HRY.out (by omega)).mono ?_;rintro e w5 ⟨v5,rfl,h5,b5⟩;rw [qAe 9 elE L _ ys HLl.out HYS.out] at h5;have hsl:=yF 9 elE L;rw [<- HYS.out,HYL.out] at hsl
   obtain ⟨tl,htl⟩:∃ q,qL 9 elE L=q:=⟨_,rfl⟩
   rw [htl] at h5 hsl;have HTl:=hid htl;obtain ⟨so,sc,rfl,hrs⟩:=h5.rd;have HRS:=hid hrs;have h56:=b5.size;have hz5:w0.heap.size <= w5.heap.size:=by have:=HB.out.size;have:=HZ.out;omega
   have HB5:=hid (HB.out.trans ((HBR.out.trans (b5.mono hsr)).mono (show w0.heap.size <= z by have:=HB.out.size;rw [HZ.out] at this;exact this)));have HBO5:=hid ((HBO.out.below (HBR.out.trans (b5.mono hsr)) (by rw [HZ.out];exact qW8 _)));clear h5 b5 htl hrs
   go_wp2_with (at_builtin;refine qA rfl (.tmp 36) (.tmp 41) 37 rfl 5 .u8 w0.heap.size 1 Tryz.underlying37 qG _ bs rfl HBO5.out so _ sc tl rfl HRS.out (by omega) (by omega) hz5 ?_;intro v6 w6 o6 b6 _;have HO6:=hid o6;have HB6:=hid b6;clear o6 b6)
   have HBn:=hid (HB5.out.trans HB6.out);have hbn:(bs ++ tl).length <= 10 + 1 * 4000000000:=by rw [qW7];omega
   obtain ⟨bs2,hbs2⟩:∃ q,bs ++ tl=q:=⟨_,rfl⟩
   rw [hbs2] at HO6 hbn;have HCl:=hid hbs2;clear hbs2 HB5 HBO5 HB6 HRS h56 hz5 hsl hss f0_0 l0_0 HX HBW HRY HYL HO HYS hel HBR hsr HZ hzz HB HBO hkn hk hbl
   obtain ⟨wo,rfl⟩:∃ wo:World,wo=ws:=⟨_,rfl⟩
   obtain ⟨wo2,rfl⟩:∃ wo:World,wo=wr:=⟨_,rfl⟩
   obtain ⟨zo,rfl⟩:∃ q:Nat,q=z:=⟨_,rfl⟩
   obtain ⟨bsl,rfl⟩:∃ q:List Int,q=bs:=⟨_,rfl⟩
   obtain ⟨ws,rfl⟩:∃ q:World,q=w6:=⟨_,rfl⟩
   obtain ⟨bs,rfl⟩:∃ q:List Int,q=bs2:=⟨_,rfl⟩
   have HB:=HBn;have HBO:=HO6;have hbl:=hbn;clear HBn HO6 hbn;go_wp2_with fail
   obtain ⟨z,hz⟩:∃ z,ws.heap.size=z:=⟨_,rfl⟩
   have hzz:w.heap.size + 1 <= z:=by have:=HB.out.size;rw [HZ0.out] at this;omega
   have HZ:=hid hz;clear hz;go_loopw [4,6] (fun v i wr=>∃ k:Nat,k <= nc /\ i=.int .i64 k /\ Own 5 .u8 z wr v ((C.take k).flatMap coE) /\ Below z ws wr) (fun _ i _=>nc - (intOf i).toNat)
   case atStart=>exact ⟨0,qXf _,rfl,by simpa using Own.nil _ _ _ _,qXh _ _⟩
   case round =>
    obtain ⟨k,hkn,rfl,ho,hb⟩:=hrel;have hsr:z <= wr.heap.size:=by have:=hb.size;rw [HZ.out] at this;exact this
    have HO:=hid ho;have HBR:=hid hb;clear ho hb
    have hel:((C.take k).flatMap coE).length <= 32 * 100010000:=by
     have h1:=qM coE (C.take k) 100010000 (fun x hx=>qIt x (qXb.1 HPc.out x (qXs hx)));have h2:(C.take k).length <= 32:=by rw [qXu,HLc.out];omega
     exact qXk h1 (qXl 100010000 h2)
    obtain ⟨ys,hys⟩:∃ ys,ys=(C.take k).flatMap coE:=⟨_,rfl⟩
    rw [<- hys] at HO hel;have HYS:=hid hys;clear hys;obtain ⟨yo,yc,rfl,hry⟩:=HO.out.rd
    obtain ⟨yl,hyl⟩:∃ yl,ys.length=yl:=⟨_,rfl⟩
    have HRY:=hid hry;rw [hyl] at HO HRY hel ⊢;have HYL:=hid hyl;clear hry hyl;have HX:=hid (HX0.out.keep (show w.heap.size < w0.heap.size by rw [HZ0.out];omega) (HB.out.trans (HBR.out.mono (show w0.heap.size <= z by rw [HZ0.out];omega))));have HBW:=hid (HB0.out.trans ((HB.out.trans (HBR.out.mono (show w0.heap.size <= z by rw [HZ0.out];omega))).mono (show w.heap.size <= w0.heap.size by rw [HZ0.out];omega)));have f0_0:=HX.out.cell 12 _ rfl;have l0_0:w.heap.size < wr.heap.size:=by omega
    by_cases hk:k < nc
    ·
     obtain ⟨x,hx⟩:∃ x,C[k]?=some x:=⟨C[k]'(by rw [HLc.out];omega),qW6 (by rw [HLc.out];omega)⟩
     have HMY:=hid (qXb.1 HPc.out x (qXa hx));have HTF:=hid (jI coE C k x hx);obtain ⟨b,off,cs,rfl,hcl,hRR,hcw⟩:=RdG.elem HQc.out hx;have hbw:b < w.heap.size:=qXc w _ (hcw 0 cs[0] (qW6 (by omega)));have hcc:=fun j v hj=>(HBW.out.cell (p:=⟨b,off + k * 2 + j,none⟩) hbw).trans (hcw j v hj)
     have hwz:w.heap.size <= z:=by omega
     have hbz:b < z:=by omega
     have hpz:w.heap.size < z:=by omega
     obtain ⟨y1,y2⟩:=x;have hcm:=qIt _ HMY.out;have hmy:=HMY.out;unfold zM qAm at hmy;simp only [qXi,decide_eq_true_eq] at hmy;obtain ⟨⟨hml,hmk⟩,hmf,hmb⟩:=hmy;obtain ⟨a2,m2,k2,a3,m3,k3,rfl,hr2,hr3⟩:=hRR.now;have HR2:=hid hr2;have HR3:Hid (Rx w fun w=>RdG 4 InR w a3 m3 k3 y2):=hid (hRR.imp fun w h=>by obtain ⟨_,_,_,_,_,_,e,_,h2⟩:=h;cases e;exact h2);have f0_1:=hcc 0 _ rfl;have f0_2:=hcc 1 _ rfl;have HE0:=hid f0_1;have HE1:=hid f0_2;have l0_1:b < wr.heap.size:=by omega
     have hm2:m2 <= 32:=by rw [<- hr2.len];exact hml
     have hm3:m3 <= 300:=by rw [<- hr3.len];have:=qIc hmf;rwa [j3] at this
     have HMK:=hid hmk;have HMB:Hid (∀ I ∈ y2,zL I=true):=hid (fun I hI=>qXb.1 hmb I hI)
     obtain ⟨us,hus⟩:∃ us,qT ruE (zV y1)=us:=⟨_,rfl⟩
     obtain ⟨vs,hvs⟩:∃ vs,jN y2 ++ [11]=vs:=⟨_,rfl⟩
     have hcE:coE ⟨y1,y2⟩=szE (us ++ vs):=by rw [<- hus,<- hvs];rfl
     have HCM:=hid hcm;rw [hcE] at hcm;have huv:(us ++ vs).length <= 100010000:=by unfold szE at hcm;rw [qW7] at hcm;omega
     have huv2:us.length + vs.length <= 100010000:=by rw [qW7] at huv;exact huv
     have HCE:=hid hcE;have HUS:=hid hus;have HVS:=hid hvs;clear hcc hcw hRR hx hcl hr2 hr3 hmk hml hmf hmb hcE hcm hus hvs
     obtain ⟨zr,hzr⟩:∃ q,wr.heap.size=q:=⟨_,rfl⟩
     have hwz:w.heap.size <= zr:=by omega
     have hbz:b < zr:=by omega
     have hpz:w.heap.size < zr:=by omega
     have hzzr:z <= zr:=by omega
     have hz:zr <= wr.heap.size:=by omega
     have HZR:=hid hzr;clear hzr;go_wp2_with fail;clear f0_0 f0_1 f0_2 l0_0 l0_1;refine xU (E:=5) (z:=zr) (by kernel_rfl) 0 (.slice none 0 0) ([]) (Own.nil _ _ _ _) ?hz [.is ?v11x0,.is (.slice (some ⟨b,off,none⟩) nc cc),.is ?v11x2,.is ?v11x3,.is ?v11x4,.is (.slice a2 m2 k2),.own us,.is ?v11x7,.is (.slice (some ⟨b,off,none⟩) nc cc),.is ?v11x9,.is ?v11x10,.is ?v11x11,.is (.slice a3 m3 k3),.rd vs,.own (us ++ vs)] ((us ++ vs)) [(14,us)] [0,1,2,3,4,5,6,7,8,9,10,11,12,13,14,15] rfl (by kernel_rfl) rfl ?hop ?hok ?hla ?hfi ?hend
     case hop =>
      refine ⟨qY rfl (rq (Is ?v11x0) none [] [(1,.pointer (some ⟨w.heap.size,0,none⟩))] ⟨⟨by kernel_rfl,rfl⟩,trivial⟩ ?_),?_⟩
      ·intro a w1 hCC e1
       have hC:=hCC.1;clear hCC;refine Or.inl ⟨_,?_,rfl⟩;go_simp
       all_goals (first | (go_bits;rfl) | rfl | (rw [if_pos (by omega)]))
      refine ⟨qY rfl (rq (Is (.slice (some ⟨b,off,none⟩) nc cc)) none [(some 50,Is ?v11x0)] [] trivial ?_),?_⟩
      ·intro a w1 hCC (h0:a.tmps.getD 50 undef=_)
       have hC:=hCC.1;clear hCC;refine Or.inl ⟨.slice (some ⟨b,off,none⟩) nc cc,?_,rfl⟩;have f0:=(hC.cell (p:=⟨w.heap.size,12,none⟩) hpz).trans (HX.out.cell 12 _ rfl);go_simp
      refine ⟨qY rfl (rq (Is ?v11x2) none [] [(6,.int .i64 k)] ⟨⟨by kernel_rfl,rfl⟩,trivial⟩ ?_),?_⟩
      ·intro a w1 hCC e6
       have hC:=hCC.1;clear hCC;refine Or.inl ⟨_,?_,rfl⟩;go_simp
       all_goals (first | (go_bits;rfl) | rfl | (rw [if_pos (by omega)]))
      refine ⟨qY rfl (rq (Is ?v11x3) none [(some 51,Is (.slice (some ⟨b,off,none⟩) nc cc)),(some 52,Is ?v11x2)] [] trivial ?_),?_⟩
      ·intro a w1 hCC (h1:a.tmps.getD 51 undef=_) (h2:a.tmps.getD 52 undef=_)
       have hC:=hCC.1;clear hCC;refine Or.inl ⟨_,?_,rfl⟩;go_simp
       all_goals (first | (go_bits;rfl) | rfl | (rw [if_pos (by omega)]))
      refine ⟨qY rfl (rq (Is ?v11x4) none [(some 53,Is ?v11x3)] [] trivial ?_),?_⟩
      ·intro a w1 hCC (h3:a.tmps.getD 53 undef=_)
       have hC:=hCC.1;clear hCC;refine Or.inl ⟨_,?_,rfl⟩;go_simp
       all_goals (first | (go_bits;rfl) | rfl | (rw [if_pos (by omega)]))
      refine ⟨qY rfl (rq (Is (.slice a2 m2 k2)) none [(some 54,Is ?v11x4)] [] trivial ?_),?_⟩
      ·intro a w1 hCC (h4:a.tmps.getD 54 undef=_)
       have hC:=hCC.1;clear hCC;refine Or.inl ⟨.slice a2 m2 k2,?_,rfl⟩;have f0:=(hC.cell (p:=⟨b,off + k * 2 + 0,none⟩) hbz).trans (HE0.out)
       try simp only [qXd] at f0
       go_simp
      refine ⟨qY rfl (rq (fcF 5 zr (.own us)) none [(some 55,Is (.slice a2 m2 k2))] [] trivial ?_),?_⟩
      ·intro a w1 hCC (h5:a.tmps.getD 55 undef=_)
       have hC:=hCC.1;clear hCC;refine Or.inr (Or.inl ⟨127,#[.slice a2 m2 k2],?_,?_⟩)
       ·go_simp
       ·refine (qHi a2 m2 k2 y1 w1 (HR2.out.below (HBW.out.trans (hC.mono hwz))) (qXk hm2 (by decide)) HMK.out).mono ?_
        rintro e w2 ⟨vv,rfl,hown,hbel⟩;rw [HUS.out] at hown;exact ⟨_,rfl,hown.lift (qXk hz hC.size),hbel⟩
      refine ⟨qY rfl (rq (Is ?v11x7) none [] [(1,.pointer (some ⟨w.heap.size,0,none⟩))] ⟨⟨by kernel_rfl,rfl⟩,trivial⟩ ?_),?_⟩
      ·intro a w1 hCC e1
       have hC:=hCC.1;clear hCC;refine Or.inl ⟨_,?_,rfl⟩;go_simp
       all_goals (first | (go_bits;rfl) | rfl | (rw [if_pos (by omega)]))
      refine ⟨qY rfl (rq (Is (.slice (some ⟨b,off,none⟩) nc cc)) none [(some 57,Is ?v11x7)] [] trivial ?_),?_⟩
      ·intro a w1 hCC (h7:a.tmps.getD 57 undef=_)
       have hC:=hCC.1;clear hCC;refine Or.inl ⟨.slice (some ⟨b,off,none⟩) nc cc,?_,rfl⟩;have f0:=(hC.cell (p:=⟨w.heap.size,12,none⟩) hpz).trans (HX.out.cell 12 _ rfl);go_simp
      refine ⟨qY rfl (rq (Is ?v11x9) none [] [(6,.int .i64 k)] ⟨⟨by kernel_rfl,rfl⟩,trivial⟩ ?_),?_⟩
      ·intro a w1 hCC e6
       have hC:=hCC.1;clear hCC;refine Or.inl ⟨_,?_,rfl⟩;go_simp
       all_goals (first | (go_bits;rfl) | rfl | (rw [if_pos (by omega)]))
      refine ⟨qY rfl (rq (Is ?v11x10) none [(some 58,Is (.slice (some ⟨b,off,none⟩) nc cc)),(some 59,Is ?v11x9)] [] trivial ?_),?_⟩
      ·intro a w1 hCC (h8:a.tmps.getD 58 undef=_) (h9:a.tmps.getD 59 undef=_)
       have hC:=hCC.1;clear hCC;refine Or.inl ⟨_,?_,rfl⟩;go_simp
       all_goals (first | (go_bits;rfl) | rfl | (rw [if_pos (by omega)]))
      refine ⟨qY rfl (rq (Is ?v11x11) none [(some 60,Is ?v11x10)] [] trivial ?_),?_⟩
      ·intro a w1 hCC (h10:a.tmps.getD 60 undef=_)
       have hC:=hCC.1;clear hCC;refine Or.inl ⟨_,?_,rfl⟩;go_simp
       all_goals (first | (go_bits;rfl) | rfl | (rw [if_pos (by omega)]))
      refine ⟨qY rfl (rq (Is (.slice a3 m3 k3)) none [(some 61,Is ?v11x11)] [] trivial ?_),?_⟩
      ·intro a w1 hCC (h11:a.tmps.getD 61 undef=_)
       have hC:=hCC.1;clear hCC;refine Or.inl ⟨.slice a3 m3 k3,?_,rfl⟩;have f0:=(hC.cell (p:=⟨b,off + k * 2 + 1,none⟩) hbz).trans (HE1.out)
       try simp only [qXd] at f0
       go_simp
      refine ⟨qY rfl (rq (fcF 5 zr (.rd vs)) none [(some 62,Is (.slice a3 m3 k3)),(some 56,fun _ _=>True)] [] trivial ?_),?_⟩
      ·intro a w1 hCC (h12:a.tmps.getD 62 undef=_) _
       have hC:=hCC.1;clear hCC;refine Or.inr (Or.inl ⟨128,#[.slice a3 m3 k3],?_,?_⟩)
       ·go_simp
       ·refine (qEw (fun _=>True) a3 m3 k3 y2 w1 ((HR3.out.below (HBW.out.trans (hC.mono hwz))).now.insP) (qXk hm3 (by decide)) HMB.out).mono ?_
        rintro e w2 ⟨vv,rfl,hown,hbel⟩;rw [HVS.out] at hown;obtain ⟨ao1,cap1,rfl,hrd⟩:=hown.rd;exact ⟨_,rfl,⟨ao1,cap1,rfl,hrd⟩,hbel⟩
      refine ⟨xG (o:=⟨_,_,_,_,_,_⟩) (d:=64) (sa:=56) (sb:=63) (t:=37) (j0:=6) (j1:=13) rfl rfl rfl rfl Tryz.underlying37 qG (by kernel_rfl) (by kernel_rfl) (by kernel_rfl) (by kernel_rfl) rfl rfl rfl (.inl rfl) rfl (by omega) (fun w h=>qXk hz h.1.size) (qAq rfl),?_⟩;refine ⟨qY rfl (rq (fcF 5 zr (.own (us ++ vs))) none [(some 64,fcF 5 zr (.own (us ++ vs))),(some 64,fcF 5 zr (.own (us ++ vs))),(some 50,fun _ _=>True),(some 51,fun _ _=>True),(some 52,fun _ _=>True),(some 53,fun _ _=>True),(some 54,fun _ _=>True),(some 55,fun _ _=>True),(some 56,fun _ _=>True),(some 57,fun _ _=>True),(some 58,fun _ _=>True),(some 59,fun _ _=>True),(some 60,fun _ _=>True),(some 61,fun _ _=>True),(some 62,fun _ _=>True),(some 63,fun _ _=>True),(some 64,fcF 5 zr (.own (us ++ vs)))] [] trivial ?_),?_⟩
      ·intro a w1 hCC h14 h14 _ _ _ _ _ _ _ _ _ _ _ _ _ _ h14
       have hC:=hCC.1;clear hCC;refine Or.inl ⟨_,?_,h14⟩;go_simp
       all_goals simp [zZ]
      exact trivial
     case hz=>exact hz
     case hok=>kernel_rfl
     case hla=>kernel_rfl
     case hfi=>kernel_rfl
     case hend =>
      intro w1 hC;rintro _ rfl;rintro _ rfl;rintro _ rfl;rintro _ rfl;rintro _ rfl;rintro _ rfl;intro x6 _;rintro _ rfl;rintro _ rfl;rintro _ rfl;rintro _ rfl;rintro _ rfl;rintro _ rfl;intro x13 _;intro x14 _;intro xf hf;simp only [xV,Act.put,qXj,qXp,qXo];have HO5:=hid hf;have HB5:=hid hC;obtain ⟨co,cc2,rfl,hrc⟩:=hf.rd
      obtain ⟨cs2,hcs2⟩:∃ q,us ++ vs=q:=⟨_,rfl⟩
      rw [hcs2] at hrc huv ⊢;have HCS:=hid hcs2;have HRC:=hid hrc;clear hcs2 hrc HO5 hf
      obtain ⟨cl2,hcl2⟩:∃ q,cs2.length=q:=⟨_,rfl⟩
      rw [hcl2] at HRC huv ⊢;have HCL:=hid hcl2;clear hcl2;go_wp2_with fail;have hsz1:=HB5.out.size;refine (xK cl2 co cl2 cc2 cs2 w1 (by omega) (by omega) HRC.out (by omega)).mono ?_;rintro e w2 ⟨v,rfl,hv,hb⟩;have hcs3:jG cl2 ++ cs2=coE ⟨y1,y2⟩:=by rw [HCE.out,HCS.out,<- HCL.out];rfl
      have hcm:=HCM.out;rw [hcs3] at hv
      obtain ⟨es,hes⟩:∃ q,coE ⟨y1,y2⟩=q:=⟨_,rfl⟩
      rw [hes] at hv hcm;obtain ⟨zo2,zc,rfl,hrz⟩:=hv.rd;have hsz2:=hb.size;have HBZ:=hid (HB5.out.trans (hb.mono (show zr <= w1.heap.size by omega)));have HO2:=hid (HO.out.below HBZ.out (by rw [HZR.out];exact qW8 _));have HRZ:=hid hrz;have hfin:(C.take (k + 1)).flatMap coE=ys ++ es:=by rw [HTF.out,<- HYS.out,hes]
      have HFIN:=hid hfin;have hzw:z <= w2.heap.size:=by omega
      clear hv hb hcs3 hes hrz hfin
      go_wp2_with (at_builtin;refine qA rfl (.tmp 65) (.tmp 69) 37 rfl 5 .u8 z 1 Tryz.underlying37 qG _ ys rfl HO2.out zo2 _ zc es rfl HRZ.out (by rw [HYL.out];omega) (by rw [HYL.out];omega) hzw ?_;intro v3 w3 o3 b3 _;have HO3:=hid o3;have HB3:=hid b3;clear o3 b3)
      go_roundw
      case rel=>exact ⟨k + 1,by omega,by go_num,by rw [HFIN.out];exact HO3.out,HBR.out.trans ((HBZ.out.mono hzzr).trans HB3.out)⟩
      case measure=>simp [intOf];omega
    ·
     have e0:k=nc:=by omega
     subst e0;rw [qW9 (by rw [HLc.out];exact qW8 _)] at HYS;go_wp2_with fail;have hss:C.length <= 32:=by rw [HLc.out];omega
     refine (jO 10 (by decide) _ yo yl yc ys wr (by omega) HRY.out (by omega)).mono ?_;rintro e w5 ⟨v5,rfl,h5,b5⟩;rw [qAe 10 coE C _ ys HLc.out HYS.out] at h5;have hsl:=yF 10 coE C;rw [<- HYS.out,HYL.out] at hsl
     obtain ⟨tc,htc⟩:∃ q,qL 10 coE C=q:=⟨_,rfl⟩
     rw [htc] at h5 hsl;have HTc:=hid htc;obtain ⟨so,sc,rfl,hrs⟩:=h5.rd;have HRS:=hid hrs;have h56:=b5.size;have hz5:w0.heap.size <= w5.heap.size:=by have:=HB.out.size;have:=HZ.out;omega
     have HB5:=hid (HB.out.trans ((HBR.out.trans (b5.mono hsr)).mono (show w0.heap.size <= z by have:=HB.out.size;rw [HZ.out] at this;exact this)));have HBO5:=hid ((HBO.out.below (HBR.out.trans (b5.mono hsr)) (by rw [HZ.out];exact qW8 _)));clear h5 b5 htc hrs
     go_wp2_with (at_builtin;refine qA rfl (.tmp 71) (.tmp 76) 37 rfl 5 .u8 w0.heap.size 1 Tryz.underlying37 qG _ bs rfl HBO5.out so _ sc tc rfl HRS.out (by omega) (by omega) hz5 ?_;intro v6 w6 o6 b6 _;have HO6:=hid o6;have HB6:=hid b6;clear o6 b6)
     have HBn:=hid (HB5.out.trans HB6.out);have hbn:(bs ++ tc).length <= 10 + 2 * 4000000000:=by rw [qW7];omega
     obtain ⟨bs2,hbs2⟩:∃ q,bs ++ tc=q:=⟨_,rfl⟩
     rw [hbs2] at HO6 hbn;have HCc:=hid hbs2;clear hbs2 HB5 HBO5 HB6 HRS h56 hz5 hsl hss f0_0 l0_0 HX HBW HRY HYL HO HYS hel HBR hsr HZ hzz HB HBO hkn hk hbl
     obtain ⟨wo,rfl⟩:∃ wo:World,wo=ws:=⟨_,rfl⟩
     obtain ⟨wo2,rfl⟩:∃ wo:World,wo=wr:=⟨_,rfl⟩
     obtain ⟨zo,rfl⟩:∃ q:Nat,q=z:=⟨_,rfl⟩
     obtain ⟨bsc,rfl⟩:∃ q:List Int,q=bs:=⟨_,rfl⟩
     obtain ⟨ws,rfl⟩:∃ q:World,q=w6:=⟨_,rfl⟩
     obtain ⟨bs,rfl⟩:∃ q:List Int,q=bs2:=⟨_,rfl⟩
     have HB:=HBn;have HBO:=HO6;have hbl:=hbn;clear HBn HO6 hbn;go_wp2_with fail
     obtain ⟨z,hz⟩:∃ z,ws.heap.size=z:=⟨_,rfl⟩
     have hzz:w.heap.size + 1 <= z:=by have:=HB.out.size;rw [HZ0.out] at this;omega
     have HZ:=hid hz;clear hz;go_loopw [4,8] (fun v i wr=>∃ k:Nat,k <= nd /\ i=.int .i64 k /\ Own 5 .u8 z wr v ((D.take k).flatMap daE) /\ Below z ws wr) (fun _ i _=>nd - (intOf i).toNat)
     case atStart=>exact ⟨0,qXf _,rfl,by simpa using Own.nil _ _ _ _,qXh _ _⟩
     case round =>
      obtain ⟨k,hkn,rfl,ho,hb⟩:=hrel;have hsr:z <= wr.heap.size:=by have:=hb.size;rw [HZ.out] at this;exact this
      have HO:=hid ho;have HBR:=hid hb;clear ho hb
      have hel:((D.take k).flatMap daE).length <= 32 * 100010000:=by
       have h1:=qM daE (D.take k) 100010000 (fun x hx=>qOf x (qXb.1 HPd.out x (qXs hx)));have h2:(D.take k).length <= 32:=by rw [qXu,HLd.out];omega
       exact qXk h1 (qXl 100010000 h2)
      obtain ⟨ys,hys⟩:∃ ys,ys=(D.take k).flatMap daE:=⟨_,rfl⟩
      rw [<- hys] at HO hel;have HYS:=hid hys;clear hys;obtain ⟨yo,yc,rfl,hry⟩:=HO.out.rd
      obtain ⟨yl,hyl⟩:∃ yl,ys.length=yl:=⟨_,rfl⟩
      have HRY:=hid hry;rw [hyl] at HO HRY hel ⊢;have HYL:=hid hyl;clear hry hyl;have HX:=hid (HX0.out.keep (show w.heap.size < w0.heap.size by rw [HZ0.out];omega) (HB.out.trans (HBR.out.mono (show w0.heap.size <= z by rw [HZ0.out];omega))));have HBW:=hid (HB0.out.trans ((HB.out.trans (HBR.out.mono (show w0.heap.size <= z by rw [HZ0.out];omega))).mono (show w.heap.size <= w0.heap.size by rw [HZ0.out];omega)));have f0_0:=HX.out.cell 13 _ rfl;have l0_0:w.heap.size < wr.heap.size:=by omega
      by_cases hk:k < nd
      ·
       obtain ⟨x,hx⟩:∃ x,D[k]?=some x:=⟨D[k]'(by rw [HLd.out];omega),qW6 (by rw [HLd.out];omega)⟩
       have HMY:=hid (qXb.1 HPd.out x (qXa hx));have HTF:=hid (jI daE D k x hx);obtain ⟨b,off,cs,rfl,hcl,hRR,hcw⟩:=RdG.elem HQd.out hx;have hbw:b < w.heap.size:=qXc w _ (hcw 0 cs[0] (qW6 (by omega)));have hcc:=fun j v hj=>(HBW.out.cell (p:=⟨b,off + k * 2 + j,none⟩) hbw).trans (hcw j v hj)
       have hwz:w.heap.size <= z:=by omega
       have hbz:b < z:=by omega
       have hpz:w.heap.size < z:=by omega
       obtain ⟨y1,y2⟩:=x;have hmy:=HMY.out;unfold zG at hmy;simp only [qXi,decide_eq_true_eq] at hmy;obtain ⟨hmo,hml⟩:=hmy;obtain ⟨a2,m2,k2,rfl,hr2⟩:=hRR.now;have HR2:=hid hr2;have f0_1:=hcc 0 _ rfl;have f0_2:=hcc 1 _ rfl;have HE0:=hid f0_1;have HE1:=hid f0_2;have l0_1:b < wr.heap.size:=by omega
       have hm2:m2 <= 1000:=by rw [<- hr2.len];exact hml
       have HLM:Hid (y2.length=m2):=hid hr2.len;have HMO:=hid hmo;have hyo:-9223372036854775808 <= y1 /\ y1 <= 9223372036854775807:=by unfold j6 at hmo;simp at hmo;omega
       have HYO:=hid hyo;have hl1:=yC 1 y1;have hl2:(jG (m2:Int) ++ y2).length <= 100001000:=by have:=j9 (m2:Int);rw [qW7];omega
       obtain ⟨us,hus⟩:∃ us,qBk 1 y1=us:=⟨_,rfl⟩
       obtain ⟨vs,hvs⟩:∃ vs,jG (m2:Int) ++ y2=vs:=⟨_,rfl⟩
       rw [hus] at hl1;rw [hvs] at hl2;have HUS:=hid hus;have HVS:=hid hvs;clear hcc hcw hRR hx hcl hr2 hmo hml hyo hus hvs;have hz:=hsr;go_wp2_with fail;clear f0_0 f0_1 f0_2 l0_0 l0_1;refine xU (E:=5) (z:=z) (by kernel_rfl) 2 (.slice yo yl yc) (ys) (HO.out) ?hz (.is (.slice yo yl yc) :: .rd [0] :: .own (ys ++ [0]) :: .is ?v18x3 :: .is (.slice (some ⟨b,off,none⟩) nd cd) :: .is ?v18x5 :: .is ?v18x6 :: .is ?v18x7 :: .is (.int .i64 y1) :: .is (.agg #[.int .i64 1,.int .i64 y1]) :: .rd us :: .own (ys ++ [0] ++ us) :: .is ?v18x12 :: .is (.slice (some ⟨b,off,none⟩) nd cd) :: .is ?v18x14 :: .is ?v18x15 :: .is ?v18x16 :: .is (.slice a2 m2 k2) :: .is (.int .i64 m2) :: .is ?v18x19 :: .is (.slice (some ⟨b,off,none⟩) nd cd) :: .is ?v18x21 :: .is ?v18x22 :: .is ?v18x23 :: .is (.slice a2 m2 k2) :: .rd vs :: .own (ys ++ [0] ++ us ++ vs) :: []) ((ys ++ [0] ++ us ++ vs)) [(2,ys),(11,(ys ++ [0])),(26,(ys ++ [0] ++ us))] (0 :: 1 :: 2 :: 3 :: 4 :: 5 :: 6 :: 7 :: 8 :: 9 :: 10 :: 11 :: 12 :: 13 :: 14 :: 15 :: 16 :: 17 :: 18 :: 19 :: 20 :: 21 :: 22 :: 23 :: 24 :: 25 :: 26 :: 27 :: []) rfl (by kernel_rfl) rfl ?hop ?hok ?hla ?hfi ?hend
       case hop =>
        refine ⟨qY rfl (rq (Is (.slice yo yl yc)) none [] [(4,.slice yo yl yc)] ⟨⟨by kernel_rfl,rfl⟩,trivial⟩ ?_),?_⟩
        ·intro a w1 hCC e4
         have hC:=hCC.1;clear hCC;refine Or.inl ⟨(.slice yo yl yc),?_,rfl⟩;go_simp
         all_goals (first | rfl | (go_bits;rfl))
        refine ⟨qY rfl (rq (fcF 5 z (.rd [0])) none [] [] trivial ?_),?_⟩
        ·intro a w1 hCC
         have hC:=hCC.1;clear hCC;refine Or.inr (Or.inr ⟨.slice (some ⟨w1.heap.size,0,none⟩) 1 1,w1.alloc (.cells #[.int .u8 0] 5),?_,⟨_,_,rfl,Rd.built _ _ _ _ (by decide)⟩,Bl.alloc (Bl.refl _) _⟩);go_simp
        refine ⟨uV (o:=⟨_,_,_,_,_,_⟩) (d:=87) (sa:=85) (sb:=86) (t:=37) (j0:=0) (j1:=1) (v0:=.slice yo yl yc) (xs:=ys) rfl rfl rfl rfl Tryz.underlying37 qG (by kernel_rfl) (by kernel_rfl) (by kernel_rfl) (by kernel_rfl) rfl rfl rfl (.inl rfl) rfl (by (try simp only [qW7]);(try simp only [qXg,qXq]);rw [HYL.out];omega) (fun w h=>qXk hz h.1.size) (fun w h=>h.2 rfl) (qFv rfl),?_⟩;refine ⟨qY rfl (rq (Is ?v18x3) none [] [(1,.pointer (some ⟨w.heap.size,0,none⟩))] ⟨⟨by kernel_rfl,rfl⟩,trivial⟩ ?_),?_⟩
        ·intro a w1 hCC e1
         have hC:=hCC.1;clear hCC;refine Or.inl ⟨_,?_,rfl⟩;go_simp
         all_goals (first | (go_bits;rfl) | rfl | (rw [if_pos (by omega)]))
        refine ⟨qY rfl (rq (Is (.slice (some ⟨b,off,none⟩) nd cd)) none [(some 88,Is ?v18x3)] [] trivial ?_),?_⟩
        ·intro a w1 hCC (h3:a.tmps.getD 88 undef=_)
         have hC:=hCC.1;clear hCC;refine Or.inl ⟨.slice (some ⟨b,off,none⟩) nd cd,?_,rfl⟩;have f0:=(hC.cell (p:=⟨w.heap.size,13,none⟩) hpz).trans (HX.out.cell 13 _ rfl);go_simp
        refine ⟨qY rfl (rq (Is ?v18x5) none [] [(8,.int .i64 k)] ⟨⟨by kernel_rfl,rfl⟩,trivial⟩ ?_),?_⟩
        ·intro a w1 hCC e8
         have hC:=hCC.1;clear hCC;refine Or.inl ⟨_,?_,rfl⟩;go_simp
         all_goals (first | (go_bits;rfl) | rfl | (rw [if_pos (by omega)]))
        refine ⟨qY rfl (rq (Is ?v18x6) none [(some 89,Is (.slice (some ⟨b,off,none⟩) nd cd)),(some 90,Is ?v18x5)] [] trivial ?_),?_⟩
        ·intro a w1 hCC (h4:a.tmps.getD 89 undef=_) (h5:a.tmps.getD 90 undef=_)
         have hC:=hCC.1;clear hCC;refine Or.inl ⟨_,?_,rfl⟩;go_simp
         all_goals (first | (go_bits;rfl) | rfl | (rw [if_pos (by omega)]))
        refine ⟨qY rfl (rq (Is ?v18x7) none [(some 91,Is ?v18x6)] [] trivial ?_),?_⟩
        ·intro a w1 hCC (h6:a.tmps.getD 91 undef=_)
         have hC:=hCC.1;clear hCC;refine Or.inl ⟨_,?_,rfl⟩;go_simp
         all_goals (first | (go_bits;rfl) | rfl | (rw [if_pos (by omega)]))
        refine ⟨qY rfl (rq (Is (.int .i64 y1)) none [(some 92,Is ?v18x7)] [] trivial ?_),?_⟩
        ·intro a w1 hCC (h7:a.tmps.getD 92 undef=_)
         have hC:=hCC.1;clear hCC;refine Or.inl ⟨.int .i64 y1,?_,rfl⟩;have f0:=(hC.cell (p:=⟨b,off + k * 2 + 0,none⟩) hbz).trans (HE0.out)
         try simp only [qXd] at f0
         go_simp
        refine ⟨qY rfl (rq (Is (.agg #[.int .i64 1,.int .i64 y1])) none [(some 93,Is (.int .i64 y1))] [] trivial ?_),?_⟩
        ·intro a w1 hCC (h8:a.tmps.getD 93 undef=_)
         have hC:=hCC.1;clear hCC;refine Or.inl ⟨.agg #[.int .i64 1,.int .i64 y1],?_,rfl⟩;have h8z:a.tmps[93]?.getD undef=.int .i64 y1:=by simpa using h8
         go_simp
        refine ⟨qY rfl (rq (fcF 5 z (.rd us)) none [(some 94,Is (.agg #[.int .i64 1,.int .i64 y1])),(some 87,fun _ _=>True)] [] trivial ?_),?_⟩
        ·intro a w1 hCC (h9:a.tmps.getD 94 undef=_) _
         have hC:=hCC.1;clear hCC;refine Or.inr (Or.inl ⟨55,#[.agg #[.int .i64 1,.int .i64 y1]],?_,?_⟩)
         ·go_simp
         ·refine (yO 1 y1 w1 HMO.out HYO.out).mono ?_
          rintro e w2 ⟨vv,rfl,hown,hbel⟩;rw [HUS.out] at hown;obtain ⟨ao1,cap1,rfl,hrd⟩:=hown.rd;exact ⟨_,rfl,⟨ao1,cap1,rfl,hrd⟩,hbel⟩
        refine ⟨xG (o:=⟨_,_,_,_,_,_⟩) (d:=96) (sa:=87) (sb:=95) (t:=37) (j0:=2) (j1:=10) rfl rfl rfl rfl Tryz.underlying37 qG (by kernel_rfl) (by kernel_rfl) (by kernel_rfl) (by kernel_rfl) rfl rfl rfl (.inl rfl) rfl (by (try simp only [qW7]);(try simp only [qXg,qXq]);rw [HYL.out];omega) (fun w h=>qXk hz h.1.size) (qAq rfl),?_⟩;refine ⟨qY rfl (rq (Is ?v18x12) none [] [(1,.pointer (some ⟨w.heap.size,0,none⟩))] ⟨⟨by kernel_rfl,rfl⟩,trivial⟩ ?_),?_⟩
        ·intro a w1 hCC e1
         have hC:=hCC.1;clear hCC;refine Or.inl ⟨_,?_,rfl⟩;go_simp
         all_goals (first | (go_bits;rfl) | rfl | (rw [if_pos (by omega)]))
        refine ⟨qY rfl (rq (Is (.slice (some ⟨b,off,none⟩) nd cd)) none [(some 97,Is ?v18x12)] [] trivial ?_),?_⟩
        ·intro a w1 hCC (h12:a.tmps.getD 97 undef=_)
         have hC:=hCC.1;clear hCC;refine Or.inl ⟨.slice (some ⟨b,off,none⟩) nd cd,?_,rfl⟩;have f0:=(hC.cell (p:=⟨w.heap.size,13,none⟩) hpz).trans (HX.out.cell 13 _ rfl);go_simp
        refine ⟨qY rfl (rq (Is ?v18x14) none [] [(8,.int .i64 k)] ⟨⟨by kernel_rfl,rfl⟩,trivial⟩ ?_),?_⟩
        ·intro a w1 hCC e8
         have hC:=hCC.1;clear hCC;refine Or.inl ⟨_,?_,rfl⟩;go_simp
         all_goals (first | (go_bits;rfl) | rfl | (rw [if_pos (by omega)]))
        refine ⟨qY rfl (rq (Is ?v18x15) none [(some 98,Is (.slice (some ⟨b,off,none⟩) nd cd)),(some 99,Is ?v18x14)] [] trivial ?_),?_⟩
        ·intro a w1 hCC (h13:a.tmps.getD 98 undef=_) (h14:a.tmps.getD 99 undef=_)
         have hC:=hCC.1;clear hCC;refine Or.inl ⟨_,?_,rfl⟩;go_simp
         all_goals (first | (go_bits;rfl) | rfl | (rw [if_pos (by omega)]))
        refine ⟨qY rfl (rq (Is ?v18x16) none [(some 100,Is ?v18x15)] [] trivial ?_),?_⟩
        ·intro a w1 hCC (h15:a.tmps.getD 100 undef=_)
         have hC:=hCC.1;clear hCC;refine Or.inl ⟨_,?_,rfl⟩;go_simp
         all_goals (first | (go_bits;rfl) | rfl | (rw [if_pos (by omega)]))
        refine ⟨qY rfl (rq (Is (.slice a2 m2 k2)) none [(some 101,Is ?v18x16)] [] trivial ?_),?_⟩
        ·intro a w1 hCC (h16:a.tmps.getD 101 undef=_)
         have hC:=hCC.1;clear hCC;refine Or.inl ⟨.slice a2 m2 k2,?_,rfl⟩;have f0:=(hC.cell (p:=⟨b,off + k * 2 + 1,none⟩) hbz).trans (HE1.out)
         try simp only [qXd] at f0
         go_simp
        refine ⟨qY rfl (rq (Is (.int .i64 m2)) none [(some 102,Is (.slice a2 m2 k2))] [] trivial ?_),?_⟩
        ·intro a w1 hCC (h17:a.tmps.getD 102 undef=_)
         have hC:=hCC.1;clear hCC;refine Or.inl ⟨(.int .i64 m2),?_,rfl⟩;go_simp
         all_goals (first | rfl | (go_bits;rfl))
        refine ⟨qY rfl (rq (Is ?v18x19) none [] [(1,.pointer (some ⟨w.heap.size,0,none⟩))] ⟨⟨by kernel_rfl,rfl⟩,trivial⟩ ?_),?_⟩
        ·intro a w1 hCC e1
         have hC:=hCC.1;clear hCC;refine Or.inl ⟨_,?_,rfl⟩;go_simp
         all_goals (first | (go_bits;rfl) | rfl | (rw [if_pos (by omega)]))
        refine ⟨qY rfl (rq (Is (.slice (some ⟨b,off,none⟩) nd cd)) none [(some 104,Is ?v18x19)] [] trivial ?_),?_⟩
        ·intro a w1 hCC (h19:a.tmps.getD 104 undef=_)
         have hC:=hCC.1;clear hCC;refine Or.inl ⟨.slice (some ⟨b,off,none⟩) nd cd,?_,rfl⟩;have f0:=(hC.cell (p:=⟨w.heap.size,13,none⟩) hpz).trans (HX.out.cell 13 _ rfl);go_simp
        refine ⟨qY rfl (rq (Is ?v18x21) none [] [(8,.int .i64 k)] ⟨⟨by kernel_rfl,rfl⟩,trivial⟩ ?_),?_⟩
        ·intro a w1 hCC e8
         have hC:=hCC.1;clear hCC;refine Or.inl ⟨_,?_,rfl⟩;go_simp
         all_goals (first | (go_bits;rfl) | rfl | (rw [if_pos (by omega)]))
        refine ⟨qY rfl (rq (Is ?v18x22) none [(some 105,Is (.slice (some ⟨b,off,none⟩) nd cd)),(some 106,Is ?v18x21)] [] trivial ?_),?_⟩
        ·intro a w1 hCC (h20:a.tmps.getD 105 undef=_) (h21:a.tmps.getD 106 undef=_)
         have hC:=hCC.1;clear hCC;refine Or.inl ⟨_,?_,rfl⟩;go_simp
         all_goals (first | (go_bits;rfl) | rfl | (rw [if_pos (by omega)]))
        refine ⟨qY rfl (rq (Is ?v18x23) none [(some 107,Is ?v18x22)] [] trivial ?_),?_⟩
        ·intro a w1 hCC (h22:a.tmps.getD 107 undef=_)
         have hC:=hCC.1;clear hCC;refine Or.inl ⟨_,?_,rfl⟩;go_simp
         all_goals (first | (go_bits;rfl) | rfl | (rw [if_pos (by omega)]))
        refine ⟨qY rfl (rq (Is (.slice a2 m2 k2)) none [(some 108,Is ?v18x23)] [] trivial ?_),?_⟩
        ·intro a w1 hCC (h23:a.tmps.getD 108 undef=_)
         have hC:=hCC.1;clear hCC;refine Or.inl ⟨.slice a2 m2 k2,?_,rfl⟩;have f0:=(hC.cell (p:=⟨b,off + k * 2 + 1,none⟩) hbz).trans (HE1.out)
         try simp only [qXd] at f0
         go_simp
        refine ⟨qY rfl (rq (fcF 5 z (.rd vs)) none [(some 103,Is (.int .i64 m2)),(some 109,Is (.slice a2 m2 k2)),(some 96,fun _ _=>True)] [] trivial ?_),?_⟩
        ·intro a w1 hCC (h18:a.tmps.getD 103 undef=_) (h24:a.tmps.getD 109 undef=_) _
         have hC:=hCC.1;clear hCC;refine Or.inr (Or.inl ⟨123,#[.int .i64 m2,.slice a2 m2 k2],?_,?_⟩)
         ·go_simp
         ·refine (xK m2 a2 m2 k2 y2 w1 (by omega) (by omega) (HR2.out.below (HBW.out.trans (hC.mono hwz))) (by omega)).mono ?_
          rintro e w2 ⟨vv,rfl,hown,hbel⟩;rw [HVS.out] at hown;obtain ⟨ao1,cap1,rfl,hrd⟩:=hown.rd;exact ⟨_,rfl,⟨ao1,cap1,rfl,hrd⟩,hbel⟩
        refine ⟨xG (o:=⟨_,_,_,_,_,_⟩) (d:=111) (sa:=96) (sb:=110) (t:=37) (j0:=11) (j1:=25) rfl rfl rfl rfl Tryz.underlying37 qG (by kernel_rfl) (by kernel_rfl) (by kernel_rfl) (by kernel_rfl) rfl rfl rfl (.inl rfl) rfl (by (try simp only [qW7]);(try simp only [qXg,qXq]);rw [HYL.out];omega) (fun w h=>qXk hz h.1.size) (qAq rfl),?_⟩;refine ⟨qY rfl (rq (fcF 5 z (.own (ys ++ [0] ++ us ++ vs))) none [(some 111,fcF 5 z (.own (ys ++ [0] ++ us ++ vs))),(some 111,fcF 5 z (.own (ys ++ [0] ++ us ++ vs))),(some 85,fun _ _=>True),(some 86,fun _ _=>True),(some 87,fun _ _=>True),(some 88,fun _ _=>True),(some 89,fun _ _=>True),(some 90,fun _ _=>True),(some 91,fun _ _=>True),(some 92,fun _ _=>True),(some 93,fun _ _=>True),(some 94,fun _ _=>True),(some 95,fun _ _=>True),(some 96,fun _ _=>True),(some 97,fun _ _=>True),(some 98,fun _ _=>True),(some 99,fun _ _=>True),(some 100,fun _ _=>True),(some 101,fun _ _=>True),(some 102,fun _ _=>True),(some 103,fun _ _=>True),(some 104,fun _ _=>True),(some 105,fun _ _=>True),(some 106,fun _ _=>True),(some 107,fun _ _=>True),(some 108,fun _ _=>True),(some 109,fun _ _=>True),(some 110,fun _ _=>True),(some 111,fcF 5 z (.own (ys ++ [0] ++ us ++ vs)))] [] trivial ?_),?_⟩
        ·intro a w1 hCC h26 h26 _ _ _ _ _ _ _ _ _ _ _ _ _ _ _ _ _ _ _ _ _ _ _ _ _ _ h26
         have hC:=hCC.1;clear hCC;refine Or.inl ⟨_,?_,h26⟩;go_simp
         all_goals simp [zZ]
        exact trivial
       case hz=>exact hz
       case hok=>kernel_rfl
       case hla=>kernel_rfl
       case hfi=>kernel_rfl
       case hend =>
        intro w1 hC;rintro _ rfl;intro x1 _;intro x2 _;rintro _ rfl;rintro _ rfl;rintro _ rfl;rintro _ rfl;rintro _ rfl;rintro _ rfl;rintro _ rfl;intro x10 _;intro x11 _;rintro _ rfl;rintro _ rfl;rintro _ rfl;rintro _ rfl;rintro _ rfl;rintro _ rfl;rintro _ rfl;rintro _ rfl;rintro _ rfl;rintro _ rfl;rintro _ rfl;rintro _ rfl;rintro _ rfl;intro x25 _;intro x26 _;intro xf hf;simp only [xV,Act.put,qXj,qXp,qXo];have HO5:=hid hf;have HB5:=hid hC
        have hfin:(D.take (k + 1)).flatMap daE=ys ++ [0] ++ us ++ vs:=by
         rw [HTF.out,<- HYS.out,daE,show szE y2=jG (m2:Int) ++ y2 by unfold szE;rw [HLM.out];rfl,HUS.out,HVS.out];simp
        have HFIN:=hid hfin;clear hfin;go_wp2_with fail;go_roundw
        case rel=>exact ⟨k + 1,by omega,by go_num,by rw [HFIN.out];exact HO5.out,HBR.out.trans HB5.out⟩
        case measure=>simp [intOf];omega
      ·
       have e0:k=nd:=by omega
       subst e0;rw [qW9 (by rw [HLd.out];exact qW8 _)] at HYS;go_wp2_with fail;have hss:D.length <= 32:=by rw [HLd.out];omega
       refine (jO 11 (by decide) _ yo yl yc ys wr (by omega) HRY.out (by omega)).mono ?_;rintro e w5 ⟨v5,rfl,h5,b5⟩;rw [qAe 11 daE D _ ys HLd.out HYS.out] at h5;have hsl:=yF 11 daE D;rw [<- HYS.out,HYL.out] at hsl
       obtain ⟨td,htd⟩:∃ q,qL 11 daE D=q:=⟨_,rfl⟩
       rw [htd] at h5 hsl;have HTd:=hid htd;obtain ⟨so,sc,rfl,hrs⟩:=h5.rd;have HRS:=hid hrs;have h56:=b5.size;have hz5:w0.heap.size <= w5.heap.size:=by have:=HB.out.size;have:=HZ.out;omega
       have HB5:=hid (HB.out.trans ((HBR.out.trans (b5.mono hsr)).mono (show w0.heap.size <= z by have:=HB.out.size;rw [HZ.out] at this;exact this)));have HBO5:=hid ((HBO.out.below (HBR.out.trans (b5.mono hsr)) (by rw [HZ.out];exact qW8 _)));clear h5 b5 htd hrs
       go_wp2_with (at_builtin;refine qA rfl (.tmp 112) (.tmp 117) 37 rfl 5 .u8 w0.heap.size 1 Tryz.underlying37 qG _ bs rfl HBO5.out so _ sc td rfl HRS.out (by omega) (by omega) hz5 ?_;intro v6 w6 o6 b6 _;have HO6:=hid o6;have HB6:=hid b6;clear o6 b6)
       have hfin:bs ++ td=qL 9 elE L ++ (qL 10 coE C ++ qL 11 daE D):=by rw [<- HCc.out,<- HCl.out,HBS.out,HTl.out,HTc.out,HTd.out];simp
       rw [hfin] at HO6;go_ret;exact ⟨_,rfl,HO6.out.lift (by rw [HZ0.out];omega),HB0.out.trans ((HB5.out.trans HB6.out).mono (by rw [HZ0.out];omega))⟩
end Go.Proofs.YtbkofpljchkkaaaGreat
