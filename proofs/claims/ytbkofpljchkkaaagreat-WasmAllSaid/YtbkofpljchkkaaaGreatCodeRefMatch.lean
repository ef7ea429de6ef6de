/- Words: CodeRefMatch. -/
import Derived.Test.YtbkofpljchkkaaaGreatKE
set_option maxRecDepth 100000
set_option maxHeartbeats 4000000
namespace Go.Proofs.YtbkofpljchkkaaaGreat
open Go.RowKit
theorem qQd:(Tryz.prog.info? 168).map (fun i=>(i.zero,i.size,i.bytes))=some (some (.agg #[.int .i64 0,.int .i64 0,.int .i64 0]),3,24):=by kernel_rfl
theorem qNn {E1 E2:TypeId} {s1 s2 B H n g cap:Nat} {v1 v2:Value} {w w1 w2:World} {r1 r2:List (List Value)} {r:List Value}
    (h1:OwnC E1 s1 B w v1 r1) (h2:OwnC E2 s2 B w v2 r2) (hne:∀ x,v1.ownBlock=some x -> v2.ownBlock ≠ some x) (hB:B <= w.heap.size) (hw:Below w.heap.size w w1) (hH:w.heap.size <= H) (hr:r.length=s1) (hn:r1.length=n)
    (o:w2.ownsRow B E1 s1 (.slice (some ⟨g,0,none⟩) (n + 1) cap) (n + 1) (r1.flatten ++ r)) (g2:w1.grownBy w2 v1.ownBlock) (hg:v1.ownBlock=some g ∨ g=H) :
    OwnC E1 s1 B w2 (.slice (some ⟨g,0,none⟩) (n + 1) cap) (r1 ++ [r]) /\ OwnC E2 s2 B w2 v2 r2 /\ v2.ownBlock ≠ some g /\ Below B w w2:=by
 refine ⟨OwnC.snoc r hr h1.wid (by omega) o,(h2.below hw (qW8 _)).grown g2 (fun x hx e=>hne x e hx),fun e=>?_,xB (qXh _ _) hw g2 (fun b hb=>(h1.lt b hb).1) hB⟩
 rcases hg with hg | hg
 ·exact hne g hg e
 ·have:=(h2.lt g e).2
  omega
def opR (p:Nat × Bool):List Value:=[.int .i64 (p.1:Int)]
theorem qNo {B g n cap k:Nat} {f:Bool} {r:List (Nat × Bool)} {w:World} (h:OwnC 3 1 B w (.slice (some ⟨g,0,none⟩) n cap) (((k,f) :: r).reverse.map opR)) :
    w.cell? ⟨g,r.length,none⟩=some (.int .i64 (k:Int)):=by
 have hi:r.length < (((k,f) :: r).reverse.map opR).length:=by simp
 have hg:(((k,f) :: r).reverse.map opR).getD r.length []=opR (k,f):=by simp [List.getD]
 have h0:=h.cell r.length 0 hi (u:=.int .i64 (k:Int)) (by rw [hg];rfl)
 simpa using h0.1
theorem qK4 {xs:List Int} {bl:List Bk} (h:Fit xs bl):bl.map (bkC (-1))=bl.map (bkC 0):=by
 refine List.map_congr_left fun b hb=>?_;obtain ⟨k,hk,rfl⟩:=qPk hb;have:=h.closed k hk;have e:¬ (bl.getD k default).en=-1:=by omega
 unfold bkC;rw [if_neg e,if_neg e]
theorem qH4 (C:Addr -> Prop) (ao:Option Addr) (n cap:Nat) (is:List Ins) (w:World) (hr:RdP w C ao n cap is) (hn:n <= 1000) :
    Calls Tryz.prog 59 #[.slice ao n cap] w (qVs 168 (qC0 (vP is)) w):=by
 obtain ⟨B,hB⟩:∃ B,B=w.heap.size:=⟨_,rfl⟩
 have Hr:=hid hr
 have Hx:=hid hr.len
 have HBB:=hid hB
 clear hr hB
 obtain ⟨i0,hi0,hz0,hz1,hz2⟩:=info_parts qE5
 obtain ⟨i1,hi1,hy0,hy1,hy2⟩:=info_parts qQd
 have HI:=hid (And.intro hi0 (And.intro hz0 (And.intro hz1 (And.intro hz2 (And.intro hi1 (And.intro hy0 (And.intro hy1 hy2)))))))
 clear hi0 hz0 hz1 hz2 hi1 hy0 hy1 hy2
 go_enter Tryz.func59,Tryz.ntmps59
 go_wp2_with fail
 go_loopw [4,5,6] (fun vb vo i wr=>∃ k:Nat,k <= n /\ i=.int .i64 k /\ ∃ s,qCf 0 ((vP is).take k) j8=some s /\ OwnC 168 3 B wr vb (s.bl.map (bkC (-1))) /\ OwnC 3 1 B wr vo (s.op.reverse.map opR) /\ (∀ x,vo.ownBlock=some x -> vb.ownBlock ≠ some x) /\ Below B w wr) (fun _ _ i _=>n - (intOf i).toNat)
 case atStart=>exact ⟨0,qXf _,rfl,j8,rfl,OwnC.nil _ _ _ _,OwnC.nil _ _ _ _,by simp [Value.ownBlock],qXh _ _⟩
 case round =>
  obtain ⟨k,hkn,rfl,s,hs,hbk,hop,hne,hb⟩:=hrel;have hinv:=NsInv.of _ _ rfl _ hs;have htl:((vP is).take k).length=k:=by rw [qXu,j3,Hx.out];omega
  have hd:=hinv.deep;have hf:=hinv.few;rw [htl] at hf;obtain ⟨bo,bc,rfl,p1,p2,p3⟩:=hbk.shape;obtain ⟨oo,oc,rfl,p4,p5,p6⟩:=hop.shape;simp only [List.length_map,List.length_reverse] at hbk hop hne p1 p2 p3 p4 p5 p6 ⊢
  obtain ⟨bn,hbn⟩:∃ bn,bn=s.bl.length:=⟨_,rfl⟩
  obtain ⟨on,hon⟩:∃ on,on=s.op.length:=⟨_,rfl⟩
  rw [<- hbn] at hbk hne p1 p3 hf ⊢;rw [<- hon] at hop hne p4 p6 hd ⊢;have HBN:=hid hbn;have HON:=hid hon;have HS:=hid hs;have HBK:=hid hbk;have HOP:=hid hop;have HNE:=hid hne;have HB:=hid hb;have HV:=hid hinv;have HP3:=hid p3;have HP6:=hid p6;have hsz:B <= wr.heap.size:=by have:=hb.size;rw [HBB.out];exact this
  clear hs hbk hop hne hb hbn hon hinv p3 p6;have hbnn:bn <= 1000:=by omega
  by_cases hk:k < n
  ·obtain ⟨b,off,lo,ln,lc,rfl,c0,_,_,_,_,_⟩:=(Hr.out.below (HBB.out ▸ HB.out)).cell k hk
   obtain ⟨op,hI⟩:∃ op,op=(is.getD k default).op:=⟨_,rfl⟩
   rw [<- hI] at c0;have hnx:=qEv (xs:=vP is) (k:=k) (by rw [j3,Hx.out];exact hk) HS.out;have hop':=qA0 is k (by rw [Hx.out];exact hk);rw [hop',<- hI] at hnx;have HNX:=hid hnx;have HI2:=hid hI;clear hI hnx hop' htl;by_cases hbg:xN op=true
   ·have hst:jR k op s=if s.op.length=40 then none else some ⟨s.bl ++ [⟨k,-1,-1⟩],(s.bl.length,op == 4) :: s.op⟩:=by unfold jR;rw [if_pos hbg]
    rw [hst,<- HON.out,<- HBN.out] at HNX;have h3:op=2 ∨ op=3 ∨ op=4:=by simpa [xN] using hbg
    have hrb:=HBK.out.rowN (n:=bn) (by simp [HBN.out]);have hro:=HOP.out.rowN (n:=on) (by simp [HON.out]);have HRB:=hid hrb;have HRO:=hid hro;clear hst hbg hrb hro;obtain ⟨hi0,hz0,hz1,hz2,hi1,hy0,hy1,hy2⟩:=HI.out;rcases h3 with rfl | rfl | rfl
    all_goals
     go_wp2_with (at_builtin;apply jF)
     refine hid ?_
     refine wpList_append_lies _ rfl (.tmp 23) (.tmp 26) 24 rfl B 3 i0 _ 1 8 Tryz.underlying24 hi0 hz0 hz1 hz2 rfl (by decide) (.slice oo on oc) on _ rfl (HRO.out.alloc _) ⟨wr.heap.size,0,none⟩ 1 1 [.int .i64 bn] rfl rfl (World.news_of_block (heap_alloc_new wr _)) (by simp [Value.oneCell']) (by decide) (by unfold maxLen;omega) (by omega) (by simp;omega) (wr.heap.size + 1) (by simp) ?_
     intro g cap2 w2 o2 g2 hg2 _
     have hT:=hid (qNn HOP.out HBK.out HNE.out hsz (Bl.alloc (Bl.refl wr) _) (by omega) rfl (by simp [HON.out]) o2 g2 hg2)
     have hsz2:B <= w2.heap.size:=by have:=hT.out.2.2.2.size;omega
     clear o2 g2 hg2 c0
     have hrb2:=hT.out.2.1.rowN (n:=bn) (by simp [HBN.out])
     have HRB2:=hid hrb2
     clear hrb2 HRB HRO HBK HOP HNE
     go_wp2_with (at_builtin;apply jF)
     refine hid ?_
     refine wpList_append_lies _ rfl (.tmp 28) (.tmp 31) 98 rfl B 168 i1 _ 3 24 Tryz.underlying98 hi1 hy0 hy1 hy2 rfl (by decide) (.slice bo bn bc) bn _ rfl (HRB2.out.alloc _) ⟨w2.heap.size,0,none⟩ 1 1 [.int .i64 k,.int .i64 (-1),.int .i64 (-1)] rfl rfl (World.news_of_block (heap_alloc_new w2 _)) (by simp [Value.oneCell']) (by decide) (by unfold maxLen;omega) (by omega) (by simp;omega) (w2.heap.size + 1) (by simp) ?_
     intro g' cap3 w4 o4 g4 hg4 _
     have hU:=hid (qNn hT.out.2.1 hT.out.1 (fun x hx e=>hT.out.2.2.1 (by rw [hx];exact e.symm)) hsz2 (Bl.alloc (Bl.refl w2) _) (by omega) rfl (by simp [HBN.out]) o4 g4 hg4)
     clear o4 g4 hg4 HRB2
     by_cases h40:on=40
     ·have hgt:(40:Int) < (on:Int) + 1:=by omega
      have hnn:=HNX.out;rw [if_pos h40] at hnn;have HF:=hid (vX hnn);clear hnn h40;go_wp2_with fail;go_ret2;rw [HF.out];exact ⟨_,rfl,OwnC.nil _ _ _ _,by rw [<- HBB.out];exact HB.out.trans (hT.out.2.2.2.trans hU.out.2.2.2)⟩
     ·have hgt:¬ (40:Int) < (on:Int) + 1:=by omega
      have hnn:=HNX.out;rw [if_neg h40] at hnn;have HNN:=hid hnn;clear hnn h40 HNX;go_wp2_with fail;go_roundw
      case rel =>
       refine ⟨k + 1,by omega,by go_num,_,HNN.out,?_,?_,?_,?_⟩
       ·simpa [bkC] using hU.out.1
       ·simpa [opR,HBN.out] using hU.out.2.1
       ·intro x hx e
        simp [Value.ownBlock] at hx e;exact hU.out.2.2.1 (by simp [Value.ownBlock];omega)
       ·exact HB.out.trans (hT.out.2.2.2.trans hU.out.2.2.2)
      case measure=>simp [intOf];omega
   ·have hbg':xN op=false:=by simpa using hbg
    have a2:(op == 2)=false:=by simp [xN] at hbg;simp;omega
    have a3:(op == 3)=false:=by simp [xN] at hbg;simp;omega
    have a4:(op == 4)=false:=by simp [xN] at hbg;simp;omega
    have HBG:=hid hbg';clear hbg hbg';by_cases h5:op=5
    ·subst h5
     obtain ⟨so,hso⟩:∃ so,s.op=so:=⟨_,rfl⟩
     cases so with
     | nil =>
       have hst:jR k 5 s=none:=by unfold jR;rw [if_neg (by decide),if_pos rfl,hso]
       have hnn:=HNX.out;rw [hst] at hnn;have HF:=hid (vX hnn);have h0:on=0:=by rw [HON.out,hso];rfl
       clear hst hnn hso HON HNX HOP HNE HP6;subst h0;go_wp2_with fail;go_ret2;rw [HF.out];exact ⟨_,rfl,OwnC.nil _ _ _ _,HBB.out ▸ HB.out⟩
     | cons q r =>
       obtain ⟨k0,f⟩:=q
       obtain ⟨m,hm⟩:∃ m,m=r.length:=⟨_,rfl⟩
       have hon1:on=m + 1:=by rw [HON.out,hso,hm];rfl
       obtain ⟨g,rfl⟩:=HP6.out (by omega);obtain ⟨g1,g2,g3⟩:=HV.out.opn (k0,f) (by rw [hso];simp);simp only at g1 g2 g3;rw [<- HBN.out] at g1;obtain ⟨gb,rfl⟩:=HP3.out (by omega);have hop:=HOP.out;rw [hso] at hop;have t1:=qNo hop;rw [<- hm] at t1;obtain ⟨b1,b2,_,b4,_⟩:=vW HBK.out (by rw [<- HBN.out];exact g1);have hlo:=HV.out.lo k0 (by rw [<- HBN.out];exact g1);have hel:=HV.out.els k0 (by rw [<- HBN.out];exact g1);have htl:((vP is).take k).length=k:=by rw [qXu,j3,Hx.out];omega
       rw [htl] at hlo hel
       obtain ⟨⟨at',els,en⟩,hB0⟩:∃ b0,b0=s.bl.getD k0 default:=⟨_,rfl⟩
       rw [<- hB0] at g2 g3 b1 b2 hlo hel;simp only at g2 g3 b1 b2 hlo hel;obtain ⟨a,rfl⟩:=Int.eq_ofNat_of_zero_le hlo.1;have hak:a < k:=by omega
       obtain ⟨b',off',_,_,_,e',c0',_,_,_,_,_⟩:=(Hr.out.below (HBB.out ▸ HB.out)).cell a (by omega)
       cases e'
       have hxa:((vP is).take k).getD (Int.toNat a) 0=(is.getD a default).op:=by
        rw [<- qA0 is a (by rw [Hx.out];omega)];simp [List.getD,hak]
       rw [hxa] at g3
       obtain ⟨x0,hx0⟩:∃ x0,x0=(is.getD a default).op:=⟨_,rfl⟩
       rw [<- hx0] at c0' g3;have hm1:(m:Int) + 1 - 1=m:=by omega
       subst hon1;have HX0:=hid hx0;have HM:=hid hm;have HSO:=hid hso;have HB0:=hid hB0;have HHOP:=hid hop;clear hx0 hm hso hB0 hop hxa htl HP3 HP6
       cases f with
       | false =>
         have hst:jR k 5 s=none:=by unfold jR;rw [if_neg (by decide),if_pos rfl,HSO.out]
         have hnn:=HNX.out;rw [hst] at hnn;have HF:=hid (vX hnn);clear hst hnn HNX;by_cases hx4:x0=4
         ·subst hx4
          have hel2:0 <= els:=by
           rcases hel with he | he
           ·exact absurd (g3.2 ⟨rfl,he⟩) (by simp)
           ·omega
          have HG:=hid (And.intro g2 (And.intro g3 hel));clear g2 g3 hel;go_wp2_with fail;go_ret2;rw [HF.out];exact ⟨_,rfl,OwnC.nil _ _ _ _,HBB.out ▸ HB.out⟩
         ·have hx4':(x0 == 4)=false:=by simp [hx4]
          have hx5':(x0 != 4)=true:=by simp [hx4]
          have HG:=hid (And.intro g2 (And.intro g3 (And.intro hel hx4)));clear g2 g3 hel hx4;go_wp2_with fail;go_ret2;rw [HF.out];exact ⟨_,rfl,OwnC.nil _ _ _ _,HBB.out ▸ HB.out⟩
       | true =>
         have hst:jR k 5 s=some ⟨qAx s k0 k,(k0,false) :: r⟩:=by unfold jR;rw [if_neg (by decide),if_pos rfl,HSO.out]
         have hnn:=HNX.out;rw [hst] at hnn;have HNN:=hid hnn;obtain ⟨hx4,he⟩:=g3.1 rfl;subst hx4 he;have HG:=hid (And.intro g2 (And.intro g3 hel));clear g2 g3 hel hst hnn HNX;have hs1:=HBK.out.set k0 1 (.int .i64 k) (by simp [<- HBN.out];exact g1) (by decide);rw [qMs k (by rw [<- HBN.out];exact g1)] at hs1;have HS1:=hid hs1;have hne1:=HNE.out g rfl;have HOP2:=hid (HHOP.out.aside (p:=⟨gb,k0 * 3 + 1,none⟩) (fun b hb=>by simp [Value.ownBlock] at hb hne1;simp only;omega) (.int .i64 k));clear hs1;go_wp2_with fail;go_roundw
         case rel =>
          refine ⟨k + 1,by omega,by go_num,_,HNN.out,HS1.out,?_,HNE.out,?_⟩
          ·have:=HOP2.out
           simpa [opR] using this
          ·exact Below.setCell HB.out (p:=⟨gb,k0 * 3 + 1,none⟩) (HBK.out.lt gb rfl).1 _
         case measure=>simp [intOf];omega
    ·have a5:(op == 5)=false:=by simp [h5]
     by_cases h11:op=11
     ·subst h11
      obtain ⟨so,hso⟩:∃ so,s.op=so:=⟨_,rfl⟩
      cases so with
      | nil =>
        have hst:jR k 11 s=none:=by unfold jR;rw [if_neg (by decide),if_neg (by decide),if_pos rfl,hso]
        have hnn:=HNX.out;rw [hst] at hnn;have HF:=hid (vX hnn);have h0:on=0:=by rw [HON.out,hso];rfl
        clear hst hnn hso HON HNX HOP HNE HP6 h5;subst h0;go_wp2_with fail;go_ret2;rw [HF.out];exact ⟨_,rfl,OwnC.nil _ _ _ _,HBB.out ▸ HB.out⟩
      | cons q r =>
        obtain ⟨k0,f⟩:=q
        obtain ⟨m,hm⟩:∃ m,m=r.length:=⟨_,rfl⟩
        have hon1:on=m + 1:=by rw [HON.out,hso,hm];rfl
        obtain ⟨g,rfl⟩:=HP6.out (by omega);obtain ⟨g1,g2,g3⟩:=HV.out.opn (k0,f) (by rw [hso];simp);simp only at g1 g2 g3;rw [<- HBN.out] at g1;obtain ⟨gb,rfl⟩:=HP3.out (by omega);have hop:=HOP.out;rw [hso] at hop;have t1:=qNo hop;rw [<- hm] at t1;obtain ⟨_,_,b3,_,b5⟩:=vW HBK.out (by rw [<- HBN.out];exact g1);have hm1:(m:Int) + 1 - 1=m:=by omega
        subst hon1;have hst:jR k 11 s=some ⟨qAy s k0 k,r⟩:=by unfold jR;rw [if_neg (by decide),if_neg (by decide),if_pos rfl,hso]
        have hnn:=HNX.out;rw [hst] at hnn;have HNN:=hid hnn;have HM:=hid hm;have HHOP:=hid hop;clear hm hso hop HP3 HP6 g2 g3 hst hnn HNX h5;have hs1:=HBK.out.set k0 2 (.int .i64 k) (by simp [<- HBN.out];exact g1) (by decide);rw [qMt k (by rw [<- HBN.out];exact g1) (by omega)] at hs1;have HS1:=hid hs1;have hne1:=HNE.out g rfl;have HOP2:=hid (HHOP.out.aside (p:=⟨gb,k0 * 3 + 2,none⟩) (fun b hb=>by simp [Value.ownBlock] at hb hne1;simp only;omega) (.int .i64 k));clear hs1;go_wp2_with fail;go_roundw
        case rel =>
         have hT:=HOP2.out.take m (by simp [HM.out])
         have hr:(((k0,f) :: r).reverse.map opR).take m=r.reverse.map opR:=by
          rw [List.reverse_cons,List.map_append,HM.out,List.take_left' (by simp)]
         rw [hr] at hT;refine ⟨k + 1,by omega,by go_num,_,HNN.out,HS1.out,hT,fun x hx=>HNE.out x hx,?_⟩;exact Below.setCell HB.out (p:=⟨gb,k0 * 3 + 2,none⟩) (HBK.out.lt gb rfl).1 _
        case measure=>simp [intOf];omega
     ·have a11:(op == 11)=false:=by simp [h11]
      have hst:jR k op s=some s:=by unfold jR;rw [if_neg (by rw [HBG.out];simp),if_neg h5,if_neg h11]
      have hnn:=HNX.out;rw [hst] at hnn;have HNN:=hid hnn;clear hst hnn HNX h5 h11;go_wp2_with fail;go_roundw
      case rel=>exact ⟨k + 1,by omega,by go_num,s,HNN.out,HBK.out,HON.out ▸ HOP.out,HON.out ▸ HNE.out,HB.out⟩
      case measure=>simp [intOf];omega
  ·have hkn':k=n:=by omega
   subst hkn';rw [qW9 (by rw [j3,Hx.out];exact qW8 _)] at HS;by_cases h0:on=0
   ·subst h0
    by_cases h3:300 < k
    ·have h3':(300:Int) < k:=by omega
     have HF:=hid (qGd (xs:=vP is) (by rw [j3,Hx.out];exact h3));go_wp2_with fail;go_ret2;rw [HF.out];exact ⟨_,rfl,OwnC.nil _ _ _ _,HBB.out ▸ HB.out⟩
    ·have h3':¬ (300:Int) < k:=by omega
     have hF:=qGf HS.out HON.out.symm (by rw [j3,Hx.out];omega);have HF:=hid hF;have HBK2:=HBK.out;rw [qK4 (qI9.1 hF)] at HBK2;have HBK3:=hid HBK2;clear hF HBK2;go_wp2_with fail;go_ret2;rw [HF.out];exact ⟨_,rfl,HBB.out ▸ HBK3.out,HBB.out ▸ HB.out⟩
   ·have h0':(0:Int) < on:=by omega
    have HF:=hid (qGe HS.out (by rw [<- HON.out];omega));go_wp2_with fail;go_ret2;rw [HF.out];exact ⟨_,rfl,OwnC.nil _ _ _ _,HBB.out ▸ HB.out⟩
end Go.Proofs.YtbkofpljchkkaaaGreat
