/- Words: RefMay. -/
import Derived.Test.YtbkofpljchkkaaaGreatRefPar
import Derived.Test.YtbkofpljchkkaaaGreatRefByt
set_option maxRecDepth 100000
set_option maxHeartbeats 4000000
namespace Go.Proofs.YtbkofpljchkkaaaGreat
open Go.RowKit
theorem qRs {M:MMo} (h:qV M=false):jT M=false:=by unfold jT;rw [h];simp
theorem qWj {M:MMo} (h:M.types.all xL=false):jT M=false:=qRs (by unfold qV;rw [h];simp)
theorem qV8 {M:MMo} (h:M.imports.all xD=false):jT M=false:=qRs (by unfold qV;rw [h];simp)
theorem qW0 {M:MMo} (h:M.funcs.all jQ=false):jT M=false:=qRs (by unfold qV;rw [h];simp)
theorem qW1 {M:MMo} (h:M.globals.all yY=false):jT M=false:=qRs (by unfold qV;rw [h];simp)
theorem qWk {M:MMo} (h:M.exports.all xM=false):jT M=false:=qRs (by unfold qV;rw [h];simp)
theorem qV9 {M:MMo} (h:zS M.table 16 1000=false):jT M=false:=qRs (by unfold qV;rw [h];simp)
theorem qWa {M:MMo} (h:zS M.mem 16 65536=false):jT M=false:=qRs (by unfold qV;rw [h];simp)
theorem qWb {M:MMo} (h:(M.elems.all zT && (M.codes.all zM && M.datas.all zG))=false):jT M=false:=qRs (by
 unfold qV
 cases h1:M.elems.all zT <;> cases h2:M.codes.all zM <;> cases h3:M.datas.all zG <;> simp_all)
structure Tame (M:MMo):Prop where
 b:∀ c ∈ M.codes,c.body.length <= 1000
 i:∀ i ∈ M.imports,i.mod.size <= 1000000 /\ i.name.size <= 1000000
 e:∀ e ∈ M.exports,e.name.size <= 1000000
theorem qK5 (V:MoV) (M:MMo) (w:World) (h:Rx w (MoR V M)) (hC:jH M=true) (ht:Tame M):Calls Tryz.prog 10 #[.agg (V.cells M).toArray] w fun e w'=>e=.returned (.bool ((jT M))) /\ Below w.heap.size w w':=by
 have HH:=hid h;obtain ⟨⟨ot,nt,ct⟩,⟨oi,ni,ci⟩,⟨of,nf,cf⟩,⟨og,ng,cg⟩,⟨oe,ne,ce⟩,⟨ol,nl,cl⟩,⟨oc,nc,cc⟩,⟨od,nd,cd⟩⟩:=V;obtain ⟨T,I,F,⟨th,tm,tx⟩,⟨mh,mm,mx⟩,G,E,L,C,D⟩:=M;simp only [MoV.cells]
 obtain ⟨r,hr⟩:∃ r,((jT ⟨T,I,F,⟨th,tm,tx⟩,⟨mh,mm,mx⟩,G,E,L,C,D⟩))=r:=⟨_,rfl⟩
 rw [hr]
 try dsimp only at hr
 have HR:=hid hr;clear hr;have HQt:Hid (Rx w fun w=>RdG 2 TyR w ot nt ct T):=hid (h.imp fun _ h=>h.t);have HLt:Hid (T.length=nt):=hid h.now.t.len;have hnt:nt <= 9223372036854775807:=h.now.t.cap63.1;have HQi:Hid (Rx w fun w=>RdG 3 ImR w oi ni ci I):=hid (h.imp fun _ h=>h.i);have HLi:Hid (I.length=ni):=hid h.now.i.len;have hni:ni <= 9223372036854775807:=h.now.i.cap63.1;have HQf:Hid (Rd .i64 w of nf cf F):=hid h.now.f;have HLf:Hid (F.length=nf):=hid h.now.f.len;have HQg:Hid (Rx w fun w=>RdG 3 GlR w og ng cg G):=hid (h.imp fun _ h=>h.g);have HLg:Hid (G.length=ng):=hid h.now.g.len;have hng:ng <= 9223372036854775807:=h.now.g.cap63.1;have HQe:Hid (Rx w fun w=>RdG 2 ExR w oe ne ce E):=hid (h.imp fun _ h=>h.e);have HLe:Hid (E.length=ne):=hid h.now.e.len;have hne:ne <= 9223372036854775807:=h.now.e.cap63.1;have HBI:=hid ht.i;have HBE:=hid ht.e;have HT:=hid ht;have HCN:=hid hC;have hlc:=h.now.c.len;have hll:=h.now.l.len;have hld:=h.now.d.len;simp only [jH,qXi,decide_eq_true_eq,beq_iff_eq] at hC;obtain ⟨⟨⟨⟨⟨⟨c1,c2⟩,c3⟩,c4⟩,c5⟩,c6⟩,c7⟩:=hC;rw [HLt.out] at c1;rw [HLi.out,HLf.out] at c2;rw [HLg.out] at c3;rw [HLe.out] at c4;rw [hll] at c5;rw [hld] at c6;rw [hlc,HLf.out] at c7;have c77:nc=nf:=c7;have d7:((nc:Int) != (nf:Int))=false:=by rw [c77];simp
 have c55:nl <= 16:=c5;have c66:nd <= 16:=c6;have d1:¬ (nt:Int) > 16:=by omega
 have d2:¬ (ni:Int) + nf > 16:=by omega
 have d3:¬ (ng:Int) > 16:=by omega
 have d4:¬ (ne:Int) > 16:=by omega
 have d5:¬ (nl:Int) > 16:=by omega
 have d6:¬ (nd:Int) > 16:=by omega
 have d0:(ni:Int) + nf <= 9223372036854775807:=by omega
 clear hlc hll hld ht c7 c77;have hb0:Below w.heap.size w (w.alloc (.cells #[.slice ot nt ct,.slice oi ni ci,.slice of nf cf,.bool th,.int .i64 tm,.int .i64 tx,.bool mh,.int .i64 mm,.int .i64 mx,.slice og ng cg,.slice oe ne ce,.slice ol nl cl,.slice oc nc cc,.slice od nd cd] 33)):=Bl.alloc (Bl.refl w) _;have hx0:=Cel.new w [.slice ot nt ct,.slice oi ni ci,.slice of nf cf,.bool th,.int .i64 tm,.int .i64 tx,.bool mh,.int .i64 mm,.int .i64 mx,.slice og ng cg,.slice oe ne ce,.slice ol nl cl,.slice oc nc cc,.slice od nd cd] 33;have hz0:(w.alloc (.cells #[.slice ot nt ct,.slice oi ni ci,.slice of nf cf,.bool th,.int .i64 tm,.int .i64 tx,.bool mh,.int .i64 mm,.int .i64 mx,.slice og ng cg,.slice oe ne ce,.slice ol nl cl,.slice oc nc cc,.slice od nd cd] 33)).heap.size=w.heap.size + 1:=by simp
 obtain ⟨w0,hw0⟩:∃ w0,w.alloc (.cells #[.slice ot nt ct,.slice oi ni ci,.slice of nf cf,.bool th,.int .i64 tm,.int .i64 tx,.bool mh,.int .i64 mm,.int .i64 mx,.slice og ng cg,.slice oe ne ce,.slice ol nl cl,.slice oc nc cc,.slice od nd cd] 33)=w0:=⟨_,rfl⟩
 have hx1:Cel w0 w.heap.size [.slice ot nt ct,.slice oi ni ci,.slice of nf cf,.bool th,.int .i64 tm,.int .i64 tx,.bool mh,.int .i64 mm,.int .i64 mx,.slice og ng cg,.slice oe ne ce,.slice ol nl cl,.slice oc nc cc,.slice od nd cd]:=by rw [<- hw0];exact hx0
 rw [hw0] at hb0 hz0;have HB0:=hid hb0;have HX0:=hid hx1;have HZ0:=hid hz0;have HW0:=hid hw0;clear h hb0 hx0 hx1 hz0 hw0;go_enter Tryz.func10,Tryz.ntmps10;go_wp2_with fail;rw [HW0.out];have HC16:Hid ((nf:Int) <= 16):=hid (by omega);clear c1 c2 c3 c4 c5 c6 c55 c66 d0 d1 d2 d3 d4 d5 d6 d7
 obtain ⟨ws,hws⟩:∃ ws,w0=ws:=⟨_,rfl⟩
 rw [hws];have HB:Hid (Below w0.heap.size w0 ws):=hid (by rw [<- hws];exact qXh _ _);clear hws;go_loopw [3] (fun i wr=>∃ k:Nat,k <= nt /\ i=.int .i64 k /\ Hid ((T.take k).all xL=true) /\ Below w0.heap.size w0 wr) (fun i _=>nt - (intOf i).toNat)
 case atStart=>exact ⟨0,qXf _,rfl,by simp [Hid],HB.out⟩
 case round =>
  obtain ⟨k,hkn,rfl,HA,hb⟩:=hrel;have hsr:w.heap.size < wr.heap.size:=by have:=hb.size;rw [HZ0.out] at this;omega
  have HBR:=hid hb;clear hb;have HBW:=hid (HB0.out.trans (HBR.out.mono (show w.heap.size <= w0.heap.size by rw [HZ0.out];omega)));have HX:=hid (HX0.out.keep (show w.heap.size < w0.heap.size by rw [HZ0.out];omega) HBR.out);have m0:=HX.out.cell 0 _ rfl;by_cases hk:k < nt
  ·
   obtain ⟨x,hx⟩:∃ x,T[k]?=some x:=⟨T[k]'(by rw [HLt.out];omega),qW6 (by rw [HLt.out];omega)⟩
   have hcut:=hid (qX xL T k x hx HA.out);obtain ⟨b,off,cs,rfl,hcl,hRR,hcw⟩:=RdG.elem HQt.out hx;have hbw:b < w.heap.size:=qXc w _ (hcw 0 cs[0] (qW6 (by omega)));have hcc:=fun j v hj=>(HBW.out.cell (p:=⟨b,off + k * 2 + j,none⟩) hbw).trans (hcw j v hj)
   have hbr:b < wr.heap.size:=by omega
   obtain ⟨y1,y2⟩:=x;obtain ⟨a2,m2,k2,a3,m3,k3,rfl,hr2,hr3⟩:=hRR.now;have HR2:=hid (hr2.below HBW.out);have HR3:=hid (hr3.below HBW.out);have HLM:Hid (y1.length=m2):=hid hr2.len;have HLN:Hid (y2.length=m3):=hid hr3.len;have e0:=hcc 0 _ rfl;have e1:=hcc 1 _ rfl;simp only [qXd] at e0;clear hcc hcw hRR hx hcl hr2 hr3;go_wp2_with fail;refine (yP a2 m2 k2 y1 32 wr HR2.out).mono ?_;rintro e w1 ⟨rfl,rfl⟩
   obtain ⟨p1,hp1⟩:∃ p,(y1.all yG && decide ((m2:Int) <= 32))=p:=⟨_,rfl⟩
   rw [hp1];have HP1:=hid hp1;clear hp1
   cases p1 with
   | false =>
     have hf:xL ⟨y1,y2⟩=false:=by rw [qSd y1 y2 m2 m3 HLM.out HLN.out,HP1.out] <;> rfl
     have HA2:=hid (hcut.out.1 hf);clear hcut hf;go_wp2_with fail;go_ret;exact ⟨rb (by rw [<- HR.out];exact qWj HA2.out),HB0.out.trans (HBR.out.mono (by rw [HZ0.out];omega))⟩
   | true =>
     go_wp2_with fail;refine (yP a3 m3 k3 y2 1 wr HR3.out).mono ?_;rintro e w2 ⟨rfl,rfl⟩
     obtain ⟨p2,hp2⟩:∃ p,(y2.all yG && decide ((m3:Int) <= 1))=p:=⟨_,rfl⟩
     rw [hp2];have HP2:=hid hp2;clear hp2
     cases p2 with
     | false =>
       have hf:xL ⟨y1,y2⟩=false:=by rw [qSd y1 y2 m2 m3 HLM.out HLN.out,HP1.out,HP2.out] <;> rfl
       have HA2:=hid (hcut.out.1 hf);clear hcut hf;go_wp2_with fail;go_ret;exact ⟨rb (by rw [<- HR.out];exact qWj HA2.out),HB0.out.trans (HBR.out.mono (by rw [HZ0.out];omega))⟩
     | true =>
       have hf:xL ⟨y1,y2⟩=true:=by rw [qSd y1 y2 m2 m3 HLM.out HLN.out,HP1.out,HP2.out] <;> rfl
       have HA2:=hid (hcut.out.2 hf);clear hcut hf;go_wp2_with fail;go_roundw
       case rel=>exact ⟨k + 1,by omega,by go_num,HA2.out,HBR.out⟩
       case measure=>simp [intOf];omega
  ·
   have e0:k=nt:=by omega
   subst e0;rw [qW9 (by rw [HLt.out];exact qW8 _)] at HA;have HAt:=HA;go_wp2_with fail;clear HA m0 hk hkn HBW hsr HB;have HXo:=HX;clear HX
   obtain ⟨wso,rfl⟩:∃ wo:World,wo=ws:=⟨_,rfl⟩
   obtain ⟨ws,rfl⟩:∃ q:World,q=wr:=⟨_,rfl⟩
   have HB:=HBR;clear HBR;clear HXo;go_loopw [4] (fun i wr=>∃ k:Nat,k <= ni /\ i=.int .i64 k /\ Hid ((I.take k).all xD=true) /\ Below w0.heap.size w0 wr) (fun i _=>ni - (intOf i).toNat)
   case atStart=>exact ⟨0,qXf _,rfl,by simp [Hid],HB.out⟩
   case round =>
    obtain ⟨k,hkn,rfl,HA,hb⟩:=hrel;have hsr:w.heap.size < wr.heap.size:=by have:=hb.size;rw [HZ0.out] at this;omega
    have HBR:=hid hb;clear hb;have HBW:=hid (HB0.out.trans (HBR.out.mono (show w.heap.size <= w0.heap.size by rw [HZ0.out];omega)));have HX:=hid (HX0.out.keep (show w.heap.size < w0.heap.size by rw [HZ0.out];omega) HBR.out);have m1:=HX.out.cell 1 _ rfl;by_cases hk:k < ni
    ·
     obtain ⟨x,hx⟩:∃ x,I[k]?=some x:=⟨I[k]'(by rw [HLi.out];omega),qW6 (by rw [HLi.out];omega)⟩
     have hcut:=hid (qX xD I k x hx HA.out);have hsz:=HBI.out x (qXa hx);obtain ⟨b,off,cs,rfl,hcl,hRR,hcw⟩:=RdG.elem HQi.out hx;have hbw:b < w.heap.size:=qXc w _ (hcw 0 cs[0] (qW6 (by omega)));have hcc:=fun j v hj=>(HBW.out.cell (p:=⟨b,off + k * 3 + j,none⟩) hbw).trans (hcw j v hj)
     have hbr:b < wr.heap.size:=by omega
     obtain ⟨y1,y2,y3⟩:=x;obtain rfl:cs=[.string y1,.string y2,.int .i64 y3]:=hRR.now;have hz1:y1.size <= 1000000:=hsz.1;have hz2:y2.size <= 1000000:=hsz.2;have HZ1:=hid hz1;have HZ2:=hid hz2;have e0:=hcc 0 _ rfl;have e1:=hcc 1 _ rfl;have e2:=hcc 2 _ rfl;simp only [qXd] at e0;clear hcc hcw hRR hx hcl hsz hz1 hz2;go_wp2_with fail;refine (qB3 y1 wr HZ1.out).mono ?_;rintro e w1 ⟨rfl,rfl⟩
     obtain ⟨p1,hp1⟩:∃ p,(zF y1)=p:=⟨_,rfl⟩
     rw [hp1];have HP1:=hid hp1;clear hp1
     cases p1 with
     | false =>
       have hf:xD ⟨y1,y2,y3⟩=false:=by rw [qOt y1 y2 y3,HP1.out] <;> rfl
       have HA2:=hid (hcut.out.1 hf);clear hcut hf;go_wp2_with fail;go_ret;exact ⟨rb (by rw [<- HR.out];exact qV8 HA2.out),HB0.out.trans (HBR.out.mono (by rw [HZ0.out];omega))⟩
     | true =>
       go_wp2_with fail;refine (qB3 y2 wr HZ2.out).mono ?_;rintro e w2 ⟨rfl,rfl⟩
       obtain ⟨p2,hp2⟩:∃ p,(zF y2)=p:=⟨_,rfl⟩
       rw [hp2];have HP2:=hid hp2;clear hp2
       cases p2 with
       | false =>
         have hf:xD ⟨y1,y2,y3⟩=false:=by rw [qOt y1 y2 y3,HP1.out,HP2.out] <;> rfl
         have HA2:=hid (hcut.out.1 hf);clear hcut hf;go_wp2_with fail;go_ret;exact ⟨rb (by rw [<- HR.out];exact qV8 HA2.out),HB0.out.trans (HBR.out.mono (by rw [HZ0.out];omega))⟩
       | true =>
         go_wp2_with fail;refine (qAp y3 wr).mono ?_;rintro e w3 ⟨rfl,rfl⟩
         obtain ⟨p3,hp3⟩:∃ p,(jQ y3)=p:=⟨_,rfl⟩
         rw [hp3];have HP3:=hid hp3;clear hp3
         cases p3 with
         | false =>
           have hf:xD ⟨y1,y2,y3⟩=false:=by rw [qOt y1 y2 y3,HP1.out,HP2.out,HP3.out] <;> rfl
           have HA2:=hid (hcut.out.1 hf);clear hcut hf;go_wp2_with fail;go_ret;exact ⟨rb (by rw [<- HR.out];exact qV8 HA2.out),HB0.out.trans (HBR.out.mono (by rw [HZ0.out];omega))⟩
         | true =>
           have hf:xD ⟨y1,y2,y3⟩=true:=by rw [qOt y1 y2 y3,HP1.out,HP2.out,HP3.out] <;> rfl
           have HA2:=hid (hcut.out.2 hf);clear hcut hf;go_wp2_with fail;go_roundw
           case rel=>exact ⟨k + 1,by omega,by go_num,HA2.out,HBR.out⟩
           case measure=>simp [intOf];omega
    ·
     have e0:k=ni:=by omega
     subst e0;rw [qW9 (by rw [HLi.out];exact qW8 _)] at HA;have HAi:=HA;go_wp2_with fail;clear HA m1 hk hkn HBW hsr HB;have HXo:=HX;clear HX
     obtain ⟨wso,rfl⟩:∃ wo:World,wo=ws:=⟨_,rfl⟩
     obtain ⟨ws,rfl⟩:∃ q:World,q=wr:=⟨_,rfl⟩
     have HB:=HBR;clear HBR;clear HXo;go_loopw [5] (fun i wr=>∃ k:Nat,k <= ng /\ i=.int .i64 k /\ Hid ((G.take k).all yY=true) /\ Below w0.heap.size w0 wr) (fun i _=>ng - (intOf i).toNat)
     case atStart=>exact ⟨0,qXf _,rfl,by simp [Hid],HB.out⟩
     case round =>
      obtain ⟨k,hkn,rfl,HA,hb⟩:=hrel;have hsr:w.heap.size < wr.heap.size:=by have:=hb.size;rw [HZ0.out] at this;omega
      have HBR:=hid hb;clear hb;have HBW:=hid (HB0.out.trans (HBR.out.mono (show w.heap.size <= w0.heap.size by rw [HZ0.out];omega)));have HX:=hid (HX0.out.keep (show w.heap.size < w0.heap.size by rw [HZ0.out];omega) HBR.out);have m9:=HX.out.cell 9 _ rfl;by_cases hk:k < ng
      ·
       obtain ⟨x,hx⟩:∃ x,G[k]?=some x:=⟨G[k]'(by rw [HLg.out];omega),qW6 (by rw [HLg.out];omega)⟩
       have hcut:=hid (qX yY G k x hx HA.out);obtain ⟨b,off,cs,rfl,hcl,hRR,hcw⟩:=RdG.elem HQg.out hx;have hbw:b < w.heap.size:=qXc w _ (hcw 0 cs[0] (qW6 (by omega)));have hcc:=fun j v hj=>(HBW.out.cell (p:=⟨b,off + k * 3 + j,none⟩) hbw).trans (hcw j v hj)
       have hbr:b < wr.heap.size:=by omega
       obtain ⟨y1,y2,y3⟩:=x;obtain ⟨rfl,_,_⟩:=hRR.now;have e0:=hcc 0 _ rfl;have e1:=hcc 1 _ rfl;have e2:=hcc 2 _ rfl;simp only [qXd] at e0;clear hcc hcw hRR hx hcl;go_wp2_with fail;refine (qLi y2 y3 wr).mono ?_;rintro e w1 ⟨rfl,hb⟩;have HBX:=hid (HBR.out.trans (hb.mono (show w0.heap.size <= wr.heap.size from HBR.out.size)));clear hb
       obtain ⟨p1,hp1⟩:∃ p,(okv y2 y3)=p:=⟨_,rfl⟩
       rw [hp1];have HP1:=hid hp1;clear hp1
       cases p1 with
       | false =>
         have hf:yY ⟨y1,y2,y3⟩=false:=by rw [qUo y1 y2 y3,HP1.out] <;> rfl
         have HA2:=hid (hcut.out.1 hf);clear hcut hf;go_wp2_with fail;go_ret;exact ⟨rb (by rw [<- HR.out];exact qW1 HA2.out),HB0.out.trans (HBX.out.mono (by rw [HZ0.out];omega))⟩
       | true =>
         have hf:yY ⟨y1,y2,y3⟩=true:=by rw [qUo y1 y2 y3,HP1.out] <;> rfl
         have HA2:=hid (hcut.out.2 hf);clear hcut hf;go_wp2_with fail;go_roundw
         case rel=>exact ⟨k + 1,by omega,by go_num,HA2.out,HBX.out⟩
         case measure=>simp [intOf];omega
      ·
       have e0:k=ng:=by omega
       subst e0;rw [qW9 (by rw [HLg.out];exact qW8 _)] at HA;have HAg:=HA;go_wp2_with fail;clear HA m9 hk hkn HBW hsr HB;have HXo:=HX;clear HX
       obtain ⟨wso,rfl⟩:∃ wo:World,wo=ws:=⟨_,rfl⟩
       obtain ⟨ws,rfl⟩:∃ q:World,q=wr:=⟨_,rfl⟩
       have HB:=HBR;clear HBR;clear HXo;go_loopw [6] (fun i wr=>∃ k:Nat,k <= ne /\ i=.int .i64 k /\ Hid ((E.take k).all xM=true) /\ Below w0.heap.size w0 wr) (fun i _=>ne - (intOf i).toNat)
       case atStart=>exact ⟨0,qXf _,rfl,by simp [Hid],HB.out⟩
       case round =>
        obtain ⟨k,hkn,rfl,HA,hb⟩:=hrel;have hsr:w.heap.size < wr.heap.size:=by have:=hb.size;rw [HZ0.out] at this;omega
        have HBR:=hid hb;clear hb;have HBW:=hid (HB0.out.trans (HBR.out.mono (show w.heap.size <= w0.heap.size by rw [HZ0.out];omega)));have HX:=hid (HX0.out.keep (show w.heap.size < w0.heap.size by rw [HZ0.out];omega) HBR.out);have m10:=HX.out.cell 10 _ rfl;by_cases hk:k < ne
        ·
         obtain ⟨x,hx⟩:∃ x,E[k]?=some x:=⟨E[k]'(by rw [HLe.out];omega),qW6 (by rw [HLe.out];omega)⟩
         have hcut:=hid (qX xM E k x hx HA.out);have hsz:=HBE.out x (qXa hx);obtain ⟨b,off,cs,rfl,hcl,hRR,hcw⟩:=RdG.elem HQe.out hx;have hbw:b < w.heap.size:=qXc w _ (hcw 0 cs[0] (qW6 (by omega)));have hcc:=fun j v hj=>(HBW.out.cell (p:=⟨b,off + k * 2 + j,none⟩) hbw).trans (hcw j v hj)
         have hbr:b < wr.heap.size:=by omega
         obtain ⟨y1,y2⟩:=x;obtain rfl:cs=[.string y1,.int .i64 y2]:=hRR.now;have hz1:y1.size <= 1000000:=hsz;have HZ1:=hid hz1;have e0:=hcc 0 _ rfl;have e1:=hcc 1 _ rfl;simp only [qXd] at e0;clear hcc hcw hRR hx hcl hsz hz1;go_wp2_with fail;refine (qB3 y1 wr HZ1.out).mono ?_;rintro e w1 ⟨rfl,rfl⟩
         obtain ⟨p1,hp1⟩:∃ p,(zF y1)=p:=⟨_,rfl⟩
         rw [hp1];have HP1:=hid hp1;clear hp1
         cases p1 with
         | false =>
           have hf:xM ⟨y1,y2⟩=false:=by rw [qSe y1 y2,HP1.out] <;> rfl
           have HA2:=hid (hcut.out.1 hf);clear hcut hf;go_wp2_with fail;go_ret;exact ⟨rb (by rw [<- HR.out];exact qWk HA2.out),HB0.out.trans (HBR.out.mono (by rw [HZ0.out];omega))⟩
         | true =>
           go_wp2_with fail;refine (qAp y2 wr).mono ?_;rintro e w2 ⟨rfl,rfl⟩
           obtain ⟨p2,hp2⟩:∃ p,(jQ y2)=p:=⟨_,rfl⟩
           rw [hp2];have HP2:=hid hp2;clear hp2
           cases p2 with
           | false =>
             have hf:xM ⟨y1,y2⟩=false:=by rw [qSe y1 y2,HP1.out,HP2.out] <;> rfl
             have HA2:=hid (hcut.out.1 hf);clear hcut hf;go_wp2_with fail;go_ret;exact ⟨rb (by rw [<- HR.out];exact qWk HA2.out),HB0.out.trans (HBR.out.mono (by rw [HZ0.out];omega))⟩
           | true =>
             have hf:xM ⟨y1,y2⟩=true:=by rw [qSe y1 y2,HP1.out,HP2.out] <;> rfl
             have HA2:=hid (hcut.out.2 hf);clear hcut hf;go_wp2_with fail;go_roundw
             case rel=>exact ⟨k + 1,by omega,by go_num,HA2.out,HBR.out⟩
             case measure=>simp [intOf];omega
        ·
         have e0:k=ne:=by omega
         subst e0;rw [qW9 (by rw [HLe.out];exact qW8 _)] at HA;have HAe:=HA;have m2:=HX.out.cell 2 _ rfl;go_wp2_with fail;clear HA m10 hk hkn HBW hsr HB;have HXo:=HX;clear HX
         obtain ⟨wso,rfl⟩:∃ wo:World,wo=ws:=⟨_,rfl⟩
         obtain ⟨ws,rfl⟩:∃ q:World,q=wr:=⟨_,rfl⟩
         have HB:=HBR;clear HBR;clear m2;have HQ2:=hid (HQf.out.below (HB0.out.trans (HB.out.mono (by rw [HZ0.out];omega))));refine (qBi of _ cf F 16 ws HQ2.out).mono ?_;rintro e w2 ⟨rfl,rfl⟩;rw [decide_eq_true HC16.out,Bool.and_true]
         obtain ⟨p,hp⟩:∃ p,(F.all jQ)=p:=⟨_,rfl⟩
         rw [hp];have HPf:=hid hp;clear hp
         cases p with
         | false =>
           go_wp2_with fail;go_ret;exact ⟨rb (by rw [<- HR.out];exact qW0 HPf.out),HB0.out.trans (HB.out.mono (by rw [HZ0.out];omega))⟩
         | true =>
           have m3:=HXo.out.cell 3 _ rfl;have m4:=HXo.out.cell 4 _ rfl;have m5:=HXo.out.cell 5 _ rfl;go_wp2_with fail;clear m3 m4 m5;refine (uI th tm tx 16 1000 ws).mono ?_;rintro e w2 ⟨rfl,hb⟩;have HBw2:=hid (HB.out.trans (hb.mono HB.out.size));have HXn:=hid (HXo.out.below (qW5 _) hb);clear hb HXo;have HXo:=HXn;clear HXn
           obtain ⟨p,hp⟩:∃ p,(zS ⟨th,tm,tx⟩ 16 1000)=p:=⟨_,rfl⟩
           rw [hp];have HPta:=hid hp;clear hp
           cases p with
           | false =>
             go_wp2_with fail;go_ret;exact ⟨rb (by rw [<- HR.out];exact qV9 HPta.out),HB0.out.trans (HBw2.out.mono (by rw [HZ0.out];omega))⟩
           | true =>
             have m6:=HXo.out.cell 6 _ rfl;have m7:=HXo.out.cell 7 _ rfl;have m8:=HXo.out.cell 8 _ rfl;go_wp2_with fail;clear m6 m7 m8;refine (uI mh mm mx 16 65536 w2).mono ?_;rintro e w3 ⟨rfl,hb⟩;have HBw3:=hid (HBw2.out.trans (hb.mono HBw2.out.size));have HXn:=hid (HXo.out.below (qW5 _) hb);clear hb HXo;have HXo:=HXn;clear HXn
             obtain ⟨p,hp⟩:∃ p,(zS ⟨mh,mm,mx⟩ 16 65536)=p:=⟨_,rfl⟩
             rw [hp];have HPme:=hid hp;clear hp
             cases p with
             | false =>
               go_wp2_with fail;go_ret;exact ⟨rb (by rw [<- HR.out];exact qWa HPme.out),HB0.out.trans (HBw3.out.mono (by rw [HZ0.out];omega))⟩
             | true =>
               have m0:=HXo.out.cell 0 _ rfl;have m1:=HXo.out.cell 1 _ rfl;have m2:=HXo.out.cell 2 _ rfl;have m3:=HXo.out.cell 3 _ rfl;have m4:=HXo.out.cell 4 _ rfl;have m5:=HXo.out.cell 5 _ rfl;have m6:=HXo.out.cell 6 _ rfl;have m7:=HXo.out.cell 7 _ rfl;have m8:=HXo.out.cell 8 _ rfl;have m9:=HXo.out.cell 9 _ rfl;have m10:=HXo.out.cell 10 _ rfl;have m11:=HXo.out.cell 11 _ rfl;have m12:=HXo.out.cell 12 _ rfl;have m13:=HXo.out.cell 13 _ rfl;go_wp2_with fail;clear m0 m1 m2 m3 m4 m5 m6 m7 m8 m9 m10 m11 m12 m13;have hlat:=qHu _ _ w3 (HH.out.below (HB0.out.trans (HBw3.out.mono (by rw [HZ0.out];omega)))) HT.out.b;simp only [MoV.cells] at hlat;have HLAT:=hid hlat;clear hlat;refine (HLAT.out).mono ?_;rintro e w4 ⟨rfl,hb⟩;have HBw4:=hid (HBw3.out.trans (hb.mono HBw3.out.size));have HXn:=hid (HXo.out.below (qW5 _) hb);clear hb HXo;have HXo:=HXn;clear HXn
               obtain ⟨p,hp⟩:∃ p,(L.all zT && (C.all zM && D.all zG))=p:=⟨_,rfl⟩
               rw [hp];have HPpa:=hid hp;clear hp
               cases p with
               | false =>
                 go_wp2_with fail;go_ret;exact ⟨rb (by rw [<- HR.out];exact qWb HPpa.out),HB0.out.trans (HBw4.out.mono (by rw [HZ0.out];omega))⟩
               | true =>
                 have m0:=HXo.out.cell 0 _ rfl;have m1:=HXo.out.cell 1 _ rfl;have m2:=HXo.out.cell 2 _ rfl;have m3:=HXo.out.cell 3 _ rfl;have m4:=HXo.out.cell 4 _ rfl;have m5:=HXo.out.cell 5 _ rfl;have m6:=HXo.out.cell 6 _ rfl;have m7:=HXo.out.cell 7 _ rfl;have m8:=HXo.out.cell 8 _ rfl;have m9:=HXo.out.cell 9 _ rfl;have m10:=HXo.out.cell 10 _ rfl;have m11:=HXo.out.cell 11 _ rfl;have m12:=HXo.out.cell 12 _ rfl;have m13:=HXo.out.cell 13 _ rfl;go_wp2_with fail;clear m0 m1 m2 m3 m4 m5 m6 m7 m8 m9 m10 m11 m12 m13
                 have hpp:qV ⟨T,I,F,⟨th,tm,tx⟩,⟨mh,mm,mx⟩,G,E,L,C,D⟩=true:=by
                  have hp3:=HPpa.out;simp only [qXi] at hp3;obtain ⟨q1,q2,q3⟩:=hp3;unfold qV;dsimp only;rw [HAt.out,HAi.out,HPf.out,HPta.out,HPme.out,HAg.out,HAe.out,q1,q2,q3];rfl
                 have hlat:=qIo _ _ w4 (HH.out.below (HB0.out.trans (HBw4.out.mono (by rw [HZ0.out];omega)))) (qO2 HCN.out) hpp;simp only [MoV.cells] at hlat;have HLAT2:=hid hlat;have HPP:=hid hpp;clear hlat hpp;refine HLAT2.out.mono ?_;rintro e w5 ⟨v5,rfl,h5,b5⟩;have HB5:=hid (HBw4.out.trans (b5.mono HBw4.out.size))
                 obtain ⟨mb,hmb⟩:∃ q,moE ⟨T,I,F,⟨th,tm,tx⟩,⟨mh,mm,mx⟩,G,E,L,C,D⟩=q:=⟨_,rfl⟩
                 rw [hmb] at h5;obtain ⟨so,sc,rfl,hrs⟩:=h5.rd
                 obtain ⟨ml,hml⟩:∃ q,mb.length=q:=⟨_,rfl⟩
                 have hsm:ml <= 9223372036854775807:=by rw [<- hml];have h1:=hrs.cap63;have h2:=hrs.le;omega
                 rw [hml] at hrs ⊢;have HMB:=hid hmb;have HML:=hid hml;clear hmb hml hrs h5 b5
                 cases hd:decide ((ml:Int) <= 8000)
                 all_goals
                  have HD:=hid hd
                  go_wp2_with fail
                  go_ret
                  exact ⟨rb (by rw [<- HR.out];unfold jT;rw [HCN.out,HPP.out,HMB.out,HML.out,show decide (ml <= 8000)=decide ((ml:Int) <= 8000) from decide_eq_decide.2 (by omega),HD.out] <;> rfl),HB0.out.trans (HB5.out.mono (by rw [HZ0.out];omega))⟩
theorem qNp (V:MoV) (M:MMo) (w:World) (h:Rx w (MoR V M)) (hC:jH M=false) (hI:M.imports.length <= 1000000) (hFn:M.funcs.length <= 1000000):Calls Tryz.prog 10 #[.agg (V.cells M).toArray] w fun e w'=>e=.returned (.bool false) /\ Below w.heap.size w w':=by
 have hn:=h.now;have hs1:V.i.n <= 1000000:=by rw [<- hn.i.len];exact hI
 have hs2:V.f.n <= 1000000:=by rw [<- hn.f.len];exact hFn
 have hno:¬ (V.t.n <= 16 /\ V.i.n + V.f.n <= 16 /\ V.g.n <= 16 /\ V.e.n <= 16 /\ V.l.n <= 16 /\ V.d.n <= 16 /\ V.c.n=V.f.n):=by
  rintro ⟨h1,h2,h3,h4,h5,h6,h7⟩
  have:jH M=true:=by
   simp only [jH,qXi,decide_eq_true_eq,beq_iff_eq];rw [hn.t.len,hn.i.len,hn.f.len,hn.g.len,hn.e.len,hn.l.len,hn.d.len,hn.c.len];exact ⟨⟨⟨⟨⟨⟨h1,h2⟩,h3⟩,h4⟩,h5⟩,h6⟩,h7⟩
  rw [hC] at this;cases this
 unfold MoV.cells;obtain ⟨⟨ot,nt,ct⟩,⟨oi,ni,ci⟩,⟨of,nf,cf⟩,⟨og,ng,cg⟩,⟨oe,ne,ce⟩,⟨ol,nl,cl⟩,⟨oc,nc,cc⟩,⟨od,nd,cd⟩⟩:=V;obtain ⟨T,I,F,⟨th,tm,tx⟩,⟨mh,mm,mx⟩,G,E,L,C,D⟩:=M;simp only at hs1 hs2 hno ⊢;have HB0:Hid (Below w.heap.size w (w.alloc (.cells #[.slice ot nt ct,.slice oi ni ci,.slice of nf cf,.bool th,.int .i64 tm,.int .i64 tx,.bool mh,.int .i64 mm,.int .i64 mx,.slice og ng cg,.slice oe ne ce,.slice ol nl cl,.slice oc nc cc,.slice od nd cd] 33))):=hid (Bl.alloc (Bl.refl w) _);have HNO:=hid hno;clear h hn hI hFn hC hno;go_enter Tryz.func10,Tryz.ntmps10;by_cases h1:nt <= 16
 ·have i1:¬ (nt:Int) > 16:=by omega
  by_cases h2:ni + nf <= 16
  ·have i2:¬ (ni:Int) + nf > 16:=by omega
   by_cases h3:ng <= 16
   ·have i3:¬ (ng:Int) > 16:=by omega
    by_cases h4:ne <= 16
    ·have i4:¬ (ne:Int) > 16:=by omega
     by_cases h5:nl <= 16
     ·have i5:¬ (nl:Int) > 16:=by omega
      by_cases h6:nd <= 16
      ·have i6:¬ (nd:Int) > 16:=by omega
       have h7:nc ≠ nf:=fun e=>HNO.out ⟨h1,h2,h3,h4,h5,h6,e⟩
       have h7e:((nc:Int) != (nf:Int))=true:=by simp;omega
       go_wp2_with fail;go_ret;exact ⟨rfl,HB0.out⟩
      ·have i6:(nd:Int) > 16:=by omega
       go_wp2_with fail;go_ret;exact ⟨rfl,HB0.out⟩
     ·have i5:(nl:Int) > 16:=by omega
      go_wp2_with fail;go_ret;exact ⟨rfl,HB0.out⟩
    ·have i4:(ne:Int) > 16:=by omega
     go_wp2_with fail;go_ret;exact ⟨rfl,HB0.out⟩
   ·have i3:(ng:Int) > 16:=by omega
    go_wp2_with fail;go_ret;exact ⟨rfl,HB0.out⟩
  ·have i2:(ni:Int) + nf > 16:=by omega
   go_wp2_with fail;go_ret;exact ⟨rfl,HB0.out⟩
 ·have i1:(nt:Int) > 16:=by omega
  go_wp2_with fail;go_ret;exact ⟨rfl,HB0.out⟩
theorem qNq (V:MoV) (M:MMo) (w:World) (h:Rx w (MoR V M)) (ht:Tame M) (hI:M.imports.length <= 1000000) (hFn:M.funcs.length <= 1000000):Calls Tryz.prog 10 #[.agg (V.cells M).toArray] w fun e w'=>e=.returned (.bool (jT M)) /\ Below w.heap.size w w':=by
 cases hC:jH M with
 | true=>exact qK5 V M w h hC ht
 | false =>
   have e:jT M=false:=by unfold jT;rw [hC];rfl
   rw [e];exact qNp V M w h hC hI hFn
end Go.Proofs.YtbkofpljchkkaaaGreat
