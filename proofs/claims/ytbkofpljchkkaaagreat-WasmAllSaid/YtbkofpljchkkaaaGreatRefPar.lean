/- Words: RefPar. -/
import Derived.Test.YtbkofpljchkkaaaGreatRefMayA
import Derived.Test.YtbkofpljchkkaaaGreatCodeRefMatch
import Derived.Test.YtbkofpljchkkaaaGreatKC
set_option maxRecDepth 100000
set_option maxHeartbeats 4000000
namespace Go.Proofs.YtbkofpljchkkaaaGreat
open Go.RowKit
theorem qSc (a:Int) (l:List Int) (m:Nat) (h:l.length=m):zT ⟨a,l⟩=(j6 a && (l.all jQ && decide ((m:Int) <= 50))):=by
 unfold zT;rw [show decide ((m:Int) <= 50)=decide (l.length <= 50) from decide_eq_decide.2 (by omega)];dsimp only
 cases j6 a <;> cases l.all jQ <;> cases decide (l.length <= 50) <;> rfl
theorem qOs (l:List Int) (b:List Ins) (m:Nat) (h:l.length=m):zM ⟨l,b⟩=((qC0 (vP b)).isSome && ((l.all yG && decide ((m:Int) <= 32)) && b.all zL)):=by
 unfold zM qAm;rw [show decide ((m:Int) <= 32)=decide (l.length <= 32) from decide_eq_decide.2 (by omega)];dsimp only
 cases (qC0 (vP b)).isSome <;> cases l.all yG <;> cases decide (l.length <= 32) <;> cases b.all zL <;> rfl
theorem qSd (l r:List Int) (m n:Nat) (h:l.length=m) (h':r.length=n):xL ⟨l,r⟩=((l.all yG && decide ((m:Int) <= 32)) && (r.all yG && decide ((n:Int) <= 1))):=by
 unfold xL;rw [show decide ((m:Int) <= 32)=decide (l.length <= 32) from decide_eq_decide.2 (by omega),show decide ((n:Int) <= 1)=decide (r.length <= 1) from decide_eq_decide.2 (by omega)];dsimp only
 cases l.all yG <;> cases r.all yG <;> cases decide (l.length <= 32) <;> cases decide (r.length <= 1) <;> rfl
theorem qOt (a b:ByteArray) (t:Int):xD ⟨a,b,t⟩=(zF a && (zF b && jQ t)):=by unfold xD;dsimp only;rw [Bool.and_assoc]
theorem qSe (a:ByteArray) (t:Int):xM ⟨a,t⟩=(zF a && jQ t):=rfl
theorem qUo (b:Bool) (k n:Int):yY ⟨b,k,n⟩=okv k n:=(qJl k n).symm
theorem qHu (V:MoV) (M:MMo) (w:World) (h:Rx w (MoR V M)) (hB:∀ c ∈ M.codes,c.body.length <= 1000):Calls Tryz.prog 28 #[.agg (V.cells M).toArray] w fun e w'=>e=.returned (.bool (M.elems.all zT && (M.codes.all zM && M.datas.all zG))) /\ Below w.heap.size w w':=by
 have HH:=hid h;obtain ⟨⟨ot,nt,ct⟩,⟨oi,ni,ci⟩,⟨of,nf,cf⟩,⟨og,ng,cg⟩,⟨oe,ne,ce⟩,⟨ol,nl,cl⟩,⟨oc,nc,cc⟩,⟨od,nd,cd⟩⟩:=V;obtain ⟨T,I,F,⟨th,tm,tx⟩,⟨mh,mm,mx⟩,G,E,L,C,D⟩:=M;simp only [MoV.cells]
 obtain ⟨r,hr⟩:∃ r,((⟨T,I,F,⟨th,tm,tx⟩,⟨mh,mm,mx⟩,G,E,L,C,D⟩:MMo).elems.all zT && ((⟨T,I,F,⟨th,tm,tx⟩,⟨mh,mm,mx⟩,G,E,L,C,D⟩:MMo).codes.all zM && (⟨T,I,F,⟨th,tm,tx⟩,⟨mh,mm,mx⟩,G,E,L,C,D⟩:MMo).datas.all zG))=r:=⟨_,rfl⟩
 rw [hr]
 try dsimp only at hr
 have HR:=hid hr;clear hr;have HQl:Hid (Rx w fun w=>RdG 2 ElR w ol nl cl L):=hid (h.imp fun _ h=>h.l);have HLl:Hid (L.length=nl):=hid h.now.l.len;have hnl:nl <= 9223372036854775807:=h.now.l.cap63.1;have HQc:Hid (Rx w fun w=>RdG 2 CoR w oc nc cc C):=hid (h.imp fun _ h=>h.c);have HLc:Hid (C.length=nc):=hid h.now.c.len;have hnc:nc <= 9223372036854775807:=h.now.c.cap63.1;have HQd:Hid (Rx w fun w=>RdG 2 DaR w od nd cd D):=hid (h.imp fun _ h=>h.d);have HLd:Hid (D.length=nd):=hid h.now.d.len;have hnd:nd <= 9223372036854775807:=h.now.d.cap63.1;have HBC:=hid hB;clear hB;have hb0:Below w.heap.size w (w.alloc (.cells #[.slice ot nt ct,.slice oi ni ci,.slice of nf cf,.bool th,.int .i64 tm,.int .i64 tx,.bool mh,.int .i64 mm,.int .i64 mx,.slice og ng cg,.slice oe ne ce,.slice ol nl cl,.slice oc nc cc,.slice od nd cd] 33)):=Bl.alloc (Bl.refl w) _;have hx0:=Cel.new w [.slice ot nt ct,.slice oi ni ci,.slice of nf cf,.bool th,.int .i64 tm,.int .i64 tx,.bool mh,.int .i64 mm,.int .i64 mx,.slice og ng cg,.slice oe ne ce,.slice ol nl cl,.slice oc nc cc,.slice od nd cd] 33;have hz0:(w.alloc (.cells #[.slice ot nt ct,.slice oi ni ci,.slice of nf cf,.bool th,.int .i64 tm,.int .i64 tx,.bool mh,.int .i64 mm,.int .i64 mx,.slice og ng cg,.slice oe ne ce,.slice ol nl cl,.slice oc nc cc,.slice od nd cd] 33)).heap.size=w.heap.size + 1:=by simp
 obtain ⟨w0,hw0⟩:∃ w0,w.alloc (.cells #[.slice ot nt ct,.slice oi ni ci,.slice of nf cf,.bool th,.int .i64 tm,.int .i64 tx,.bool mh,.int .i64 mm,.int .i64 mx,.slice og ng cg,.slice oe ne ce,.slice ol nl cl,.slice oc nc cc,.slice od nd cd] 33)=w0:=⟨_,rfl⟩
 have hx1:Cel w0 w.heap.size [.slice ot nt ct,.slice oi ni ci,.slice of nf cf,.bool th,.int .i64 tm,.int .i64 tx,.bool mh,.int .i64 mm,.int .i64 mx,.slice og ng cg,.slice oe ne ce,.slice ol nl cl,.slice oc nc cc,.slice od nd cd]:=by rw [<- hw0];exact hx0
 rw [hw0] at hb0 hz0;have HB0:=hid hb0;have HX0:=hid hx1;have HZ0:=hid hz0;have HW0:=hid hw0;clear h hb0 hx0 hx1 hz0 hw0;go_enter Tryz.func28,Tryz.ntmps28;go_wp2_with fail;rw [HW0.out]
 obtain ⟨ws,hws⟩:∃ ws,w0=ws:=⟨_,rfl⟩
 rw [hws];have HB:Hid (Below w0.heap.size w0 ws):=hid (by rw [<- hws];exact qXh _ _);clear hws;go_loopw [3] (fun i wr=>∃ k:Nat,k <= nl /\ i=.int .i64 k /\ Hid ((L.take k).all zT=true) /\ Below w0.heap.size w0 wr) (fun i _=>nl - (intOf i).toNat)
 case atStart=>exact ⟨0,qXf _,rfl,by simp [Hid],HB.out⟩
 case round =>
  obtain ⟨k,hkn,rfl,HA,hb⟩:=hrel;have hsr:w.heap.size < wr.heap.size:=by have:=hb.size;rw [HZ0.out] at this;omega
  have HBR:=hid hb;clear hb;have HBW:=hid (HB0.out.trans (HBR.out.mono (show w.heap.size <= w0.heap.size by rw [HZ0.out];omega)));have HX:=hid (HX0.out.keep (show w.heap.size < w0.heap.size by rw [HZ0.out];omega) HBR.out);have m11:=HX.out.cell 11 _ rfl;by_cases hk:k < nl
  ·
   obtain ⟨x,hx⟩:∃ x,L[k]?=some x:=⟨L[k]'(by rw [HLl.out];omega),qW6 (by rw [HLl.out];omega)⟩
   have hcut:=hid (qX zT L k x hx HA.out);obtain ⟨b,off,cs,rfl,hcl,hRR,hcw⟩:=RdG.elem HQl.out hx;have hbw:b < w.heap.size:=qXc w _ (hcw 0 cs[0] (qW6 (by omega)));have hcc:=fun j v hj=>(HBW.out.cell (p:=⟨b,off + k * 2 + j,none⟩) hbw).trans (hcw j v hj)
   have hbr:b < wr.heap.size:=by omega
   obtain ⟨y1,y2⟩:=x;obtain ⟨a2,m2,k2,rfl,hr2⟩:=hRR.now;have HR2:=hid (hr2.below HBW.out);have HLM:Hid (y2.length=m2):=hid hr2.len;have e0:=hcc 0 _ rfl;have e1:=hcc 1 _ rfl;simp only [qXd] at e0;clear hcc hcw hRR hx hcl hr2;go_wp2_with fail;refine (qDn y1 wr).mono ?_;rintro e w1 ⟨rfl,rfl⟩
   obtain ⟨p1,hp1⟩:∃ p,(j6 y1)=p:=⟨_,rfl⟩
   rw [hp1];have HP1:=hid hp1;clear hp1
   cases p1 with
   | false =>
     have hf:zT ⟨y1,y2⟩=false:=by rw [qSc y1 y2 m2 HLM.out,HP1.out] <;> rfl
     have HA2:=hid (hcut.out.1 hf);clear hcut hf;go_wp2_with fail;go_ret;exact ⟨rb (by rw [<- HR.out,HA2.out];rfl),HB0.out.trans (HBR.out.mono (by rw [HZ0.out];omega))⟩
   | true =>
     go_wp2_with fail;refine (qBi a2 m2 k2 y2 50 wr HR2.out).mono ?_;rintro e w2 ⟨rfl,rfl⟩
     obtain ⟨p2,hp2⟩:∃ p,(y2.all jQ && decide ((m2:Int) <= 50))=p:=⟨_,rfl⟩
     rw [hp2];have HP2:=hid hp2;clear hp2
     cases p2 with
     | false =>
       have hf:zT ⟨y1,y2⟩=false:=by rw [qSc y1 y2 m2 HLM.out,HP1.out,HP2.out] <;> rfl
       have HA2:=hid (hcut.out.1 hf);clear hcut hf;go_wp2_with fail;go_ret;exact ⟨rb (by rw [<- HR.out,HA2.out];rfl),HB0.out.trans (HBR.out.mono (by rw [HZ0.out];omega))⟩
     | true =>
       have hf:zT ⟨y1,y2⟩=true:=by rw [qSc y1 y2 m2 HLM.out,HP1.out,HP2.out] <;> rfl
       have HA2:=hid (hcut.out.2 hf);clear hcut hf;go_wp2_with fail;go_roundw
       case rel=>exact ⟨k + 1,by omega,by go_num,HA2.out,HBR.out⟩
       case measure=>simp [intOf];omega
  ·
   have e0:k=nl:=by omega
   subst e0;rw [qW9 (by rw [HLl.out];exact qW8 _)] at HA;have HAl:=HA;go_wp2_with fail;clear HA m11 hk hkn HBW hsr HB;have HXo:=HX;clear HX
   obtain ⟨wso,rfl⟩:∃ wo:World,wo=ws:=⟨_,rfl⟩
   obtain ⟨ws,rfl⟩:∃ q:World,q=wr:=⟨_,rfl⟩
   have HB:=HBR;clear HBR;go_loopw [4] (fun i wr=>∃ k:Nat,k <= nc /\ i=.int .i64 k /\ Hid ((C.take k).all zM=true) /\ Below w0.heap.size w0 wr) (fun i _=>nc - (intOf i).toNat)
   case atStart=>exact ⟨0,qXf _,rfl,by simp [Hid],HB.out⟩
   case round =>
    obtain ⟨k,hkn,rfl,HA,hb⟩:=hrel;have hsr:w.heap.size < wr.heap.size:=by have:=hb.size;rw [HZ0.out] at this;omega
    have HBR:=hid hb;clear hb;have HBW:=hid (HB0.out.trans (HBR.out.mono (show w.heap.size <= w0.heap.size by rw [HZ0.out];omega)));have HX:=hid (HX0.out.keep (show w.heap.size < w0.heap.size by rw [HZ0.out];omega) HBR.out);have m12:=HX.out.cell 12 _ rfl;by_cases hk:k < nc
    ·
     obtain ⟨x,hx⟩:∃ x,C[k]?=some x:=⟨C[k]'(by rw [HLc.out];omega),qW6 (by rw [HLc.out];omega)⟩
     have hcut:=hid (qX zM C k x hx HA.out);have hbd:x.body.length <= 1000:=HBC.out x (qXa hx);obtain ⟨b,off,cs,rfl,hcl,hRR,hcw⟩:=RdG.elem HQc.out hx;have hbw:b < w.heap.size:=qXc w _ (hcw 0 cs[0] (qW6 (by omega)));have hcc:=fun j v hj=>(HBW.out.cell (p:=⟨b,off + k * 2 + j,none⟩) hbw).trans (hcw j v hj)
     have hbr:b < wr.heap.size:=by omega
     have HRY:Hid (∀ w2:World,Below w0.heap.size w0 w2 -> ∀ a n c (l:List Int),Rd .i64 w a n c l -> Rd .i64 w2 a n c l):=hid (fun w2 h a n c l hr=>hr.below (HB0.out.trans (h.mono (by rw [HZ0.out];omega))));obtain ⟨y1,y2⟩:=x;obtain ⟨a2,m2,k2,a3,m3,k3,rfl,hr2,hr3⟩:=hRR.now;have HR2W:=hid hr2;have HLM:Hid (y1.length=m2):=hid hr2.len;have HLN:Hid (y2.length=m3):=hid hr3.len;have HR3:Hid (Rx w fun w=>RdG 4 InR w a3 m3 k3 y2):=hid (hRR.imp fun w h=>by obtain ⟨_,_,_,_,_,_,e,_,h2⟩:=h;cases e;exact h2);have hm3:m3 <= 1000:=by rw [<- hr3.len];exact hbd
     have e0:=hcc 0 _ rfl;have e1:=hcc 1 _ rfl;simp only [qXd] at e0;clear hcc hcw hRR hx hcl hr2 hr3 hbd;go_wp2_with fail;have hq0:=Cel.new wr [.slice a2 m2 k2,.slice a3 m3 k3] 49;have hbq:Below wr.heap.size wr (wr.alloc (.cells #[.slice a2 m2 k2,.slice a3 m3 k3] 49)):=Bl.alloc (Bl.refl wr) _
     obtain ⟨q,hq⟩:∃ q,wr.heap.size=q:=⟨_,rfl⟩
     have hzq:(wr.alloc (.cells #[.slice a2 m2 k2,.slice a3 m3 k3] 49)).heap.size=q + 1:=by simp [hq]
     have HBQ0:=hid (HBR.out.trans (hbq.mono HBR.out.size));rw [hq] at hq0 ⊢
     obtain ⟨wq,hwq⟩:∃ q,(wr.alloc (.cells #[.slice a2 m2 k2,.slice a3 m3 k3] 49))=q:=⟨_,rfl⟩
     have hq1:Cel wq q [.slice a2 m2 k2,.slice a3 m3 k3]:=by rw [<- hwq];exact hq0
     rw [hwq] at HBQ0 hzq ⊢;have HQ1:=hid hq1;clear hq0 hq1 hwq hbq hq m12 e0 e1 hsr hbr;have HR30:=hid (HR3.out.below (HB0.out.trans (HBQ0.out.mono (by rw [HZ0.out];omega))));refine (qH4 (fun _=>True) a3 m3 k3 y2 wq HR30.out.now.insP hm3).mono ?_;rintro e w1 ⟨v1,rfl,hv,hb⟩;clear hv;have hs1:=hb.size;have HBQ:=hid (HBQ0.out.trans (hb.mono HBQ0.out.size));have HQ2:=hid (HQ1.out.below (qW5 _) hb);have q0:=HQ2.out.cell 0 _ rfl;have q1:=HQ2.out.cell 1 _ rfl;have lq:q < w1.heap.size:=by omega
     clear hb HQ1
     obtain ⟨p1,hp1⟩:∃ p,(qC0 (vP y2)).isSome=p:=⟨_,rfl⟩
     rw [hp1];have HP1:=hid hp1;clear hp1
     cases p1 with
     | false =>
       have hf:zM ⟨y1,y2⟩=false:=by rw [qOs y1 y2 m2 HLM.out,HP1.out];simp
       have HA2:=hid (hcut.out.1 hf);clear hcut hf;go_wp2_with fail;go_ret;exact ⟨rb (by rw [<- HR.out,HAl.out,HA2.out];rfl),HB0.out.trans (HBQ.out.mono (by rw [HZ0.out];omega))⟩
     | true =>
       go_wp2_with fail;have HR21:Hid (Rd .i64 w1 a2 m2 k2 y1):=hid (HRY.out w1 HBQ.out a2 m2 k2 y1 HR2W.out);refine (yP a2 m2 k2 y1 32 w1 HR21.out).mono ?_;rintro e w2 ⟨rfl,rfl⟩
       obtain ⟨p2,hp2⟩:∃ p,(y1.all yG && decide ((m2:Int) <= 32))=p:=⟨_,rfl⟩
       rw [hp2];have HP2:=hid hp2;clear hp2
       cases p2 with
       | false =>
         have hf:zM ⟨y1,y2⟩=false:=by rw [qOs y1 y2 m2 HLM.out,HP2.out];simp
         have HA2:=hid (hcut.out.1 hf);clear hcut hf;go_wp2_with fail;go_ret;exact ⟨rb (by rw [<- HR.out,HAl.out,HA2.out];rfl),HB0.out.trans (HBQ.out.mono (by rw [HZ0.out];omega))⟩
       | true =>
         go_wp2_with fail
         obtain ⟨wo1,rfl⟩:∃ wo:World,wo=wr:=⟨_,rfl⟩
         obtain ⟨i1,rfl⟩:∃ i:Nat,i=k:=⟨_,rfl⟩
         have HA1:=HA;clear HA;go_loopw [8] (fun i wr=>∃ k:Nat,k <= m3 /\ i=.int .i64 k /\ Hid ((y2.take k).all zL=true) /\ Below w1.heap.size w1 wr) (fun i _=>m3 - (intOf i).toNat)
         case atStart=>exact ⟨0,qXf _,rfl,by simp [Hid],qXh _ _⟩
         case round =>
          obtain ⟨k,hkm,rfl,HA,hb⟩:=hrel;have HBI:=hid hb;have hsi:=hb.size;clear hb;have HQ3:=hid (HQ2.out.below (qW5 _) HBI.out);have q2:=HQ3.out.cell 0 _ rfl;have q3:=HQ3.out.cell 1 _ rfl;have lq2:q < wr.heap.size:=by omega
          have HBJ:=hid (HBQ.out.trans (HBI.out.mono HBQ.out.size));by_cases hk2:k < m3
          ·
           obtain ⟨x,hx⟩:∃ x,y2[k]?=some x:=⟨y2[k]'(by rw [HLN.out];omega),qW6 (by rw [HLN.out];omega)⟩
           have hcu2:=hid (qX zL y2 k x hx HA.out);have HR31:=hid (HR3.out.below (HB0.out.trans (HBJ.out.mono (by rw [HZ0.out];omega))));obtain ⟨b2,off2,cs2,rfl,hcl2,hRR2,hcw2⟩:=RdG.elem HR31.out hx;have hb2:b2 < wr.heap.size:=qXc wr _ (hcw2 0 cs2[0] (qW6 (by omega)));obtain ⟨a4,m4,k4,rfl,hr4,_⟩:=hRR2.now;have e2:=hcw2 0 _ rfl;have e3:=hcw2 1 _ rfl;have e4:=hcw2 2 _ rfl;have e5:=hcw2 3 _ rfl;simp only [qXd] at e2;have HR4:=hid hr4;clear hr4 hRR2 hcw2 hcl2 hx;go_wp2_with fail;refine (qH0 x.op x.a x.b a4 m4 k4 x.l _ rfl wr HR4.out).mono ?_;rintro e w3 ⟨rfl,hb3⟩;have hs3:=hb3.size;have HB3:=hid (HBI.out.trans (hb3.mono HBI.out.size));have HBK:=hid (HBJ.out.trans (hb3.mono HBJ.out.size));clear hb3
           obtain ⟨p3,hp3⟩:∃ p,uN x.op x.a x.b x.l=p:=⟨_,rfl⟩
           rw [hp3];have HP3:=hid hp3;clear hp3 q2 q3 e2 e3 e4 e5
           cases p3 with
           | false =>
             have hg:y2.all zL=false:=hcu2.out.1 HP3.out;have hf:zM ⟨y1,y2⟩=false:=by rw [qOs y1 y2 m2 HLM.out,hg];simp
             have HA2:=hid (hcut.out.1 hf);clear hcut hf;go_wp2_with fail;go_ret;exact ⟨rb (by rw [<- HR.out,HAl.out,HA2.out];rfl),HB0.out.trans (HBK.out.mono (by rw [HZ0.out];omega))⟩
           | true =>
             have HA3:=hid (hcu2.out.2 HP3.out);clear hcu2;go_wp2_with fail;go_roundw
             case rel=>exact ⟨k + 1,by omega,by go_num,HA3.out,HB3.out⟩
             case measure=>simp [intOf];omega
          ·
           have ek:k=m3:=by omega
           subst ek;rw [qW9 (by rw [HLN.out];exact qW8 _)] at HA;have hf:zM ⟨y1,y2⟩=true:=by rw [qOs y1 y2 m2 HLM.out,HP1.out,HP2.out,HA.out];rfl
           have HA2:=hid (hcut.out.2 hf);clear hcut hf;go_wp2_with fail;go_roundw
           case rel=>exact ⟨i1 + 1,by omega,by go_num,HA2.out,HBJ.out⟩
           case measure=>simp [intOf];omega
    ·
     have e0:k=nc:=by omega
     subst e0;rw [qW9 (by rw [HLc.out];exact qW8 _)] at HA;have HAc:=HA;go_wp2_with fail;clear HA m12 hk hkn HBW hsr HB;have HXo:=HX;clear HX
     obtain ⟨wso,rfl⟩:∃ wo:World,wo=ws:=⟨_,rfl⟩
     obtain ⟨ws,rfl⟩:∃ q:World,q=wr:=⟨_,rfl⟩
     have HB:=HBR;clear HBR;go_loopw [9] (fun i wr=>∃ k:Nat,k <= nd /\ i=.int .i64 k /\ Hid ((D.take k).all zG=true) /\ Below w0.heap.size w0 wr) (fun i _=>nd - (intOf i).toNat)
     case atStart=>exact ⟨0,qXf _,rfl,by simp [Hid],HB.out⟩
     case round =>
      obtain ⟨k,hkn,rfl,HA,hb⟩:=hrel;have hsr:w.heap.size < wr.heap.size:=by have:=hb.size;rw [HZ0.out] at this;omega
      have HBR:=hid hb;clear hb;have HBW:=hid (HB0.out.trans (HBR.out.mono (show w.heap.size <= w0.heap.size by rw [HZ0.out];omega)));have HX:=hid (HX0.out.keep (show w.heap.size < w0.heap.size by rw [HZ0.out];omega) HBR.out);have m13:=HX.out.cell 13 _ rfl;by_cases hk:k < nd
      ·
       obtain ⟨x,hx⟩:∃ x,D[k]?=some x:=⟨D[k]'(by rw [HLd.out];omega),qW6 (by rw [HLd.out];omega)⟩
       have hcut:=hid (qX zG D k x hx HA.out);obtain ⟨b,off,cs,rfl,hcl,hRR,hcw⟩:=RdG.elem HQd.out hx;have hbw:b < w.heap.size:=qXc w _ (hcw 0 cs[0] (qW6 (by omega)));have hcc:=fun j v hj=>(HBW.out.cell (p:=⟨b,off + k * 2 + j,none⟩) hbw).trans (hcw j v hj)
       have hbr:b < wr.heap.size:=by omega
       obtain ⟨y1,y2⟩:=x;obtain ⟨a2,m2,k2,rfl,hr2⟩:=hRR.now;have HLM:Hid (y2.length=m2):=hid hr2.len;have h63:=hr2.cap63;have h64:=hr2.le;have e0:=hcc 0 _ rfl;have e1:=hcc 1 _ rfl;simp only [qXd] at e0;clear hcc hcw hRR hx hcl hr2;by_cases hm:m2 <= 1000
       ·
        have hm2:¬ (m2:Int) > 1000:=by omega
        go_wp2_with fail;refine (qDn y1 wr).mono ?_;rintro e w1 ⟨rfl,rfl⟩
        obtain ⟨p1,hp1⟩:∃ p,j6 y1=p:=⟨_,rfl⟩
        rw [hp1];have HP1:=hid hp1;clear hp1
        cases p1 with
        | false =>
          have hf:zG ⟨y1,y2⟩=false:=by unfold zG;rw [HP1.out];rfl
          have HA2:=hid (hcut.out.1 hf);clear hcut hf;go_wp2_with fail;go_ret;exact ⟨rb (by rw [<- HR.out,HAl.out,HAc.out,HA2.out];rfl),HB0.out.trans (HBR.out.mono (by rw [HZ0.out];omega))⟩
        | true =>
          have hf:zG ⟨y1,y2⟩=true:=by unfold zG;rw [HP1.out];simp [HLM.out,hm]
          have HA2:=hid (hcut.out.2 hf);clear hcut hf;go_wp2_with fail;go_roundw
          case rel=>exact ⟨k + 1,by omega,by go_num,HA2.out,HBR.out⟩
          case measure=>simp [intOf];omega
       ·
        have hm2:(m2:Int) > 1000:=by omega
        go_wp2_with fail;refine (qDn y1 wr).mono ?_;rintro e w1 ⟨rfl,rfl⟩
        obtain ⟨p1,hp1⟩:∃ p,j6 y1=p:=⟨_,rfl⟩
        rw [hp1];have HP1:=hid hp1;clear hp1
        cases p1 with
        | false =>
          have hf:zG ⟨y1,y2⟩=false:=by unfold zG;rw [HP1.out];rfl
          have HA2:=hid (hcut.out.1 hf);clear hcut hf;go_wp2_with fail;go_ret;exact ⟨rb (by rw [<- HR.out,HAl.out,HAc.out,HA2.out];rfl),HB0.out.trans (HBR.out.mono (by rw [HZ0.out];omega))⟩
        | true =>
          have hf:zG ⟨y1,y2⟩=false:=by unfold zG;rw [HP1.out];simp [HLM.out];omega
          have HA2:=hid (hcut.out.1 hf);clear hcut hf;go_wp2_with fail;go_ret;exact ⟨rb (by rw [<- HR.out,HAl.out,HAc.out,HA2.out];rfl),HB0.out.trans (HBR.out.mono (by rw [HZ0.out];omega))⟩
      ·
       have e0:k=nd:=by omega
       subst e0;rw [qW9 (by rw [HLd.out];exact qW8 _)] at HA;have HAd:=HA;go_wp2_with fail;clear HA m13 hk hkn HBW hsr HB;have HXo:=HX;clear HX
       obtain ⟨wso,rfl⟩:∃ wo:World,wo=ws:=⟨_,rfl⟩
       obtain ⟨ws,rfl⟩:∃ q:World,q=wr:=⟨_,rfl⟩
       have HB:=HBR;clear HBR;go_ret;exact ⟨rb (by rw [<- HR.out,HAl.out,HAc.out,HAd.out];rfl),HB0.out.trans (HB.out.mono (by rw [HZ0.out];omega))⟩
end Go.Proofs.YtbkofpljchkkaaaGreat
