/- Words: WaPartsLaw. -/
import Derived.Deep.CutBlock
import Derived.Test.YtbkofpljchkkaaaGreatPartM
import Derived.Test.YtbkofpljchkkaaaGreatCut
import Derived.Test.YtbkofpljchkkaaaGreatWF
import Derived.Test.YtbkofpljchkkaaaGreatRefMay
import Derived.Test.YtbkofpljchkkaaaGreatWB
import Derived.Test.YtbkofpljchkkaaaGreatWE
set_option maxRecDepth 100000
set_option maxHeartbeats 8000000
namespace Go.Proofs.YtbkofpljchkkaaaGreat
open Go.RowKit
theorem wasmParts_walk (V:MoV) (M:MMo) (wh:Int) (w:World) (h:Rx w (MoR V M)) :
    Calls Tryz.prog 5 #[.agg (V.cells M).toArray,.int .i64 wh] w fun e w'=>e=.returned (.bool true) /\ Below w.heap.size w w':=by
 obtain ⟨⟨ot,nt,ct⟩,⟨oi,ni,ci⟩,⟨of,nf,cf⟩,⟨og,ng,cg⟩,⟨oe,ne,ce⟩,⟨ol,nl,cl⟩,⟨oc,nc,cc⟩,⟨od,nd,cd⟩⟩:=V
 obtain ⟨th,hth⟩:∃ z,M.table.has=z:=⟨_,rfl⟩
 obtain ⟨tm,htm⟩:∃ z,M.table.mn=z:=⟨_,rfl⟩
 obtain ⟨tx,htx⟩:∃ z,M.table.mx=z:=⟨_,rfl⟩
 obtain ⟨mh,hmh⟩:∃ z,M.mem.has=z:=⟨_,rfl⟩
 obtain ⟨mm,hmm⟩:∃ z,M.mem.mn=z:=⟨_,rfl⟩
 obtain ⟨mx,hmx⟩:∃ z,M.mem.mx=z:=⟨_,rfl⟩
 have hvc:MoV.cells ⟨⟨ot,nt,ct⟩,⟨oi,ni,ci⟩,⟨of,nf,cf⟩,⟨og,ng,cg⟩,⟨oe,ne,ce⟩,⟨ol,nl,cl⟩,⟨oc,nc,cc⟩,⟨od,nd,cd⟩⟩ M=[.slice ot nt ct,.slice oi ni ci,.slice of nf cf,.bool th,.int .i64 tm,.int .i64 tx,.bool mh,.int .i64 mm,.int .i64 mx,.slice og ng cg,.slice oe ne ce,.slice ol nl cl,.slice oc nc cc,.slice od nd cd]:=by rw [<- hth,<- htm,<- htx,<- hmh,<- hmm,<- hmx];rfl
 rw [hvc]
 obtain ⟨V,hV⟩:∃ V:MoV,V=⟨⟨ot,nt,ct⟩,⟨oi,ni,ci⟩,⟨of,nf,cf⟩,⟨og,ng,cg⟩,⟨oe,ne,ce⟩,⟨ol,nl,cl⟩,⟨oc,nc,cc⟩,⟨od,nd,cd⟩⟩:=⟨_,rfl⟩
 rw [<- hV] at h hvc
 obtain ⟨p,hp⟩:∃ p,w.heap.size=p:=⟨_,rfl⟩
 have hx0:Cel (w.alloc (.cells #[.slice ot nt ct,.slice oi ni ci,.slice of nf cf,.bool th,.int .i64 tm,.int .i64 tx,.bool mh,.int .i64 mm,.int .i64 mx,.slice og ng cg,.slice oe ne ce,.slice ol nl cl,.slice oc nc cc,.slice od nd cd] 33)) p [.slice ot nt ct,.slice oi ni ci,.slice of nf cf,.bool th,.int .i64 tm,.int .i64 tx,.bool mh,.int .i64 mm,.int .i64 mx,.slice og ng cg,.slice oe ne ce,.slice ol nl cl,.slice oc nc cc,.slice od nd cd]:=hp ▸ Cel.new w [.slice ot nt ct,.slice oi ni ci,.slice of nf cf,.bool th,.int .i64 tm,.int .i64 tx,.bool mh,.int .i64 mm,.int .i64 mx,.slice og ng cg,.slice oe ne ce,.slice ol nl cl,.slice oc nc cc,.slice od nd cd] 33
 have hb0:Below w.heap.size w (w.alloc (.cells #[.slice ot nt ct,.slice oi ni ci,.slice of nf cf,.bool th,.int .i64 tm,.int .i64 tx,.bool mh,.int .i64 mm,.int .i64 mx,.slice og ng cg,.slice oe ne ce,.slice ol nl cl,.slice oc nc cc,.slice od nd cd] 33)):=Bl.alloc (Bl.refl w) _
 obtain ⟨w0,hw0⟩:∃ w0,w.alloc (.cells #[.slice ot nt ct,.slice oi ni ci,.slice of nf cf,.bool th,.int .i64 tm,.int .i64 tx,.bool mh,.int .i64 mm,.int .i64 mx,.slice og ng cg,.slice oe ne ce,.slice ol nl cl,.slice oc nc cc,.slice od nd cd] 33)=w0:=⟨_,rfl⟩
 rw [hw0] at hx0 hb0
 have hr0:=h.below hb0
 have HX0:=hid hx0;have HB0:=hid hb0;have HR0:=hid hr0;have HW0:=hid hw0;have HVC:=hid hvc;have HP:=hid hp
 clear hth
 clear htm
 clear htx
 clear hmh
 clear hmm
 clear hmx
 clear h hx0 hb0 hr0 hw0 hvc hp hV
 have hm0:=Int.tmod_lt_of_pos wh (show (0:Int) < 7 by decide)
 have hm1:=Int.lt_tmod_of_pos wh (show (0:Int) < 7 by decide)
 have hm2:=Int.tmod_lt_of_pos (Int.tmod wh 7 + 7) (show (0:Int) < 7 by decide)
 have hm3:=Int.tmod_nonneg 7 (show 0 <= Int.tmod wh 7 + 7 by omega)
 have HM7:=hid (And.intro hm2 hm3)
 have HMB:=hid (And.intro hm0 hm1)
 clear hm0 hm1 hm2 hm3
 go_enter Tryz.func5,Tryz.ntmps5
 go_wp2_with fail
 rw [HW0.out,HP.out]
 refine (qO1 w0).mono ?_
 rintro e w1 ⟨rfl,hb⟩
 have HX1:=hid (HX0.out.below (qW5 _) hb);have HR1:=hid (HR0.out.below hb);have HB1:=hid (HB0.out.trans (hb.mono HB0.out.size))
 have hp1:p < w1.heap.size:=by have:=hb.size;have:=HX0.out.lt (qW5 _);omega
 clear hb HX0 HR0 HW0 HB0
 have hc:=qGs V M w1 HR1.out
 rw [HVC.out] at hc
 have HCT:=hid hc;clear hc
 have a0:=HX1.out.cell 0 _ rfl
 have a1:=HX1.out.cell 1 _ rfl
 have a2:=HX1.out.cell 2 _ rfl
 have a3:=HX1.out.cell 3 _ rfl
 have a4:=HX1.out.cell 4 _ rfl
 have a5:=HX1.out.cell 5 _ rfl
 have a6:=HX1.out.cell 6 _ rfl
 have a7:=HX1.out.cell 7 _ rfl
 have a8:=HX1.out.cell 8 _ rfl
 have a9:=HX1.out.cell 9 _ rfl
 have a10:=HX1.out.cell 10 _ rfl
 have a11:=HX1.out.cell 11 _ rfl
 have a12:=HX1.out.cell 12 _ rfl
 have a13:=HX1.out.cell 13 _ rfl
 go_wp2_with fail
 clear a0 a1 a2 a3 a4 a5 a6 a7 a8 a9 a10 a11 a12 a13
 refine HCT.out.mono ?_
 rintro e w2 ⟨V',rfl,hx2,hb2⟩
 obtain ⟨N,hN⟩:∃ N,qCd M=N:=⟨_,rfl⟩
 have hid2:=qL0 M;have htm2:=qL1 M;have him2:=qRd M;have hfu2:=qRe M
 rw [hN] at hx2 hid2 htm2 him2 hfu2 ⊢
 have HID:=hid hid2;have HTM:=hid htm2;have HIM:=hid him2;have HFU:=hid hfu2;clear hid2 htm2 him2 hfu2 hN HCT
 obtain ⟨⟨pt,mt,rt⟩,⟨pi,mi,ri⟩,⟨pf,mf,rf⟩,⟨pg,mg,rg⟩,⟨pe,me,re⟩,⟨pl,ml,rl⟩,⟨pc,mc,rc⟩,⟨pd,md,rd⟩⟩:=V'
 obtain ⟨th',hth'⟩:∃ z,N.table.has=z:=⟨_,rfl⟩
 obtain ⟨tm',htm'⟩:∃ z,N.table.mn=z:=⟨_,rfl⟩
 obtain ⟨tx',htx'⟩:∃ z,N.table.mx=z:=⟨_,rfl⟩
 obtain ⟨mh',hmh'⟩:∃ z,N.mem.has=z:=⟨_,rfl⟩
 obtain ⟨mm',hmm'⟩:∃ z,N.mem.mn=z:=⟨_,rfl⟩
 obtain ⟨mx',hmx'⟩:∃ z,N.mem.mx=z:=⟨_,rfl⟩
 have hvc:MoV.cells ⟨⟨pt,mt,rt⟩,⟨pi,mi,ri⟩,⟨pf,mf,rf⟩,⟨pg,mg,rg⟩,⟨pe,me,re⟩,⟨pl,ml,rl⟩,⟨pc,mc,rc⟩,⟨pd,md,rd⟩⟩ N=[.slice pt mt rt,.slice pi mi ri,.slice pf mf rf,.bool th',.int .i64 tm',.int .i64 tx',.bool mh',.int .i64 mm',.int .i64 mx',.slice pg mg rg,.slice pe me re,.slice pl ml rl,.slice pc mc rc,.slice pd md rd]:=by rw [<- hth',<- htm',<- htx',<- hmh',<- hmm',<- hmx'];rfl
 rw [hvc]
 have HMH:=hid hmh'
 obtain ⟨V',hV'⟩:∃ V:MoV,V=⟨⟨pt,mt,rt⟩,⟨pi,mi,ri⟩,⟨pf,mf,rf⟩,⟨pg,mg,rg⟩,⟨pe,me,re⟩,⟨pl,ml,rl⟩,⟨pc,mc,rc⟩,⟨pd,md,rd⟩⟩:=⟨_,rfl⟩
 rw [<- hV'] at hx2 hvc
 have HV:=hid hV';have HVN:=hid hvc;have HTH:=hid (And.intro (And.intro hth' (And.intro htm' htx')) (And.intro hmh' (And.intro hmm' hmx')));clear hvc hth' htm' htx' hmh' hmm' hmx' hV'
 have HX2:=hid (HX1.out.below (qW5 _) hb2)
 obtain ⟨w3,hw3⟩:∃ x,((((((((((((((w2.setCell ⟨p,0,none⟩ (.slice pt mt rt)).setCell ⟨p,1,none⟩ (.slice pi mi ri)).setCell ⟨p,2,none⟩ (.slice pf mf rf)).setCell ⟨p,3,none⟩ (.bool th')).setCell ⟨p,4,none⟩ (.int .i64 tm')).setCell ⟨p,5,none⟩ (.int .i64 tx')).setCell ⟨p,6,none⟩ (.bool mh')).setCell ⟨p,7,none⟩ (.int .i64 mm')).setCell ⟨p,8,none⟩ (.int .i64 mx')).setCell ⟨p,9,none⟩ (.slice pg mg rg)).setCell ⟨p,10,none⟩ (.slice pe me re)).setCell ⟨p,11,none⟩ (.slice pl ml rl)).setCell ⟨p,12,none⟩ (.slice pc mc rc)).setCell ⟨p,13,none⟩ (.slice pd md rd))=x:=⟨_,rfl⟩
 have hg3:w2.grownBy w3 (some p):=by rw [<- hw3];exact (qC (qC (qC (qC (qC (qC (qC (qC (qC (qC (qC (qC (qC (qC (qO _ _) 0 _) 1 _) 2 _) 3 _) 4 _) 5 _) 6 _) 7 _) 8 _) 9 _) 10 _) 11 _) 12 _) 13 _)
 have HC:=hid (show Cel w3 p [.slice pt mt rt,.slice pi mi ri,.slice pf mf rf,.bool th',.int .i64 tm',.int .i64 tx',.bool mh',.int .i64 mm',.int .i64 mx',.slice pg mg rg,.slice pe me re,.slice pl ml rl,.slice pc mc rc,.slice pd md rd] from hw3 ▸ ((((((((((((((HX2.out.set 0 (.slice pt mt rt) (by simp)).set 1 (.slice pi mi ri) (by simp)).set 2 (.slice pf mf rf) (by simp)).set 3 (.bool th') (by simp)).set 4 (.int .i64 tm') (by simp)).set 5 (.int .i64 tx') (by simp)).set 6 (.bool mh') (by simp)).set 7 (.int .i64 mm') (by simp)).set 8 (.int .i64 mx') (by simp)).set 9 (.slice pg mg rg) (by simp)).set 10 (.slice pe me re) (by simp)).set 11 (.slice pl ml rl) (by simp)).set 12 (.slice pc mc rc) (by simp)).set 13 (.slice pd md rd) (by simp)))
 have hsz3:w3.heap.size=w2.heap.size:=by rw [<- hw3];simp
 have HNX:Hid (Bx (fun b=>p < b /\ b < w3.heap.size) w3 (MoR V' N)):=hid (hx2.to (fun b hb=>hg3.block b hb.2 (fun e=>(by have h:b=p:=(by simpa using e);omega))) (fun b hb=>⟨by omega,by rw [hsz3];exact hb.2⟩))
 have HRX:Hid (Rx w3 (MoR V' N)):=hid (HNX.out.more fun b hb=>hb.2)
 have HB3:Hid (Below w.heap.size w w3):=hid (qAb (HB1.out.trans (hb2.mono HB1.out.size)) hg3 (qXk HB1.out.size hb2.size) (by rw [HP.out];exact qW8 _))
 have hp3:p < w3.heap.size:=by rw [hsz3];have:=hb2.size;omega
 have hp2:p < w2.heap.size:=by have:=hb2.size;omega
 have a0:=HX2.out.cell 0 _ rfl;have fa0:=HX2.out.fro 0 _ rfl
 have a1:=HX2.out.cell 1 _ rfl;have fa1:=HX2.out.fro 1 _ rfl
 have a2:=HX2.out.cell 2 _ rfl;have fa2:=HX2.out.fro 2 _ rfl
 have a3:=HX2.out.cell 3 _ rfl;have fa3:=HX2.out.fro 3 _ rfl
 have a4:=HX2.out.cell 4 _ rfl;have fa4:=HX2.out.fro 4 _ rfl
 have a5:=HX2.out.cell 5 _ rfl;have fa5:=HX2.out.fro 5 _ rfl
 have a6:=HX2.out.cell 6 _ rfl;have fa6:=HX2.out.fro 6 _ rfl
 have a7:=HX2.out.cell 7 _ rfl;have fa7:=HX2.out.fro 7 _ rfl
 have a8:=HX2.out.cell 8 _ rfl;have fa8:=HX2.out.fro 8 _ rfl
 have a9:=HX2.out.cell 9 _ rfl;have fa9:=HX2.out.fro 9 _ rfl
 have a10:=HX2.out.cell 10 _ rfl;have fa10:=HX2.out.fro 10 _ rfl
 have a11:=HX2.out.cell 11 _ rfl;have fa11:=HX2.out.fro 11 _ rfl
 have a12:=HX2.out.cell 12 _ rfl;have fa12:=HX2.out.fro 12 _ rfl
 have a13:=HX2.out.cell 13 _ rfl;have fa13:=HX2.out.fro 13 _ rfl
 have hmy:=qNq V' N w3 HRX.out HTM.out HIM.out HFU.out
 rw [HVN.out] at hmy
 have HMY:=hid hmy;have HW3:=hid hw3;clear hmy hw3 hg3 hsz3 hx2 hb2
 have b0:=HC.out.cell 0 _ rfl
 have b1:=HC.out.cell 1 _ rfl
 have b2:=HC.out.cell 2 _ rfl
 have b3:=HC.out.cell 3 _ rfl
 have b4:=HC.out.cell 4 _ rfl
 have b5:=HC.out.cell 5 _ rfl
 have b6:=HC.out.cell 6 _ rfl
 have b7:=HC.out.cell 7 _ rfl
 have b8:=HC.out.cell 8 _ rfl
 have b9:=HC.out.cell 9 _ rfl
 have b10:=HC.out.cell 10 _ rfl
 have b11:=HC.out.cell 11 _ rfl
 have b12:=HC.out.cell 12 _ rfl
 have b13:=HC.out.cell 13 _ rfl
 go_wp2_with fail
 clear a0 fa0 a1 fa1 a2 fa2 a3 fa3 a4 fa4 a5 fa5 a6 fa6 a7 fa7 a8 fa8 a9 fa9 a10 fa10 a11 fa11 a12 fa12 a13 fa13
 clear b0 b1 b2 b3 b4 b5 b6 b7 b8 b9 b10 b11 b12 b13
 rw [HW3.out]
 refine HMY.out.mono ?_
 rintro e w4 ⟨rfl,hb⟩
 have hp4:p < w4.heap.size:=qXr hp3 hb.size
 replace HC:=hid (HC.out.below (qW5 _) hb);replace HRX:=hid (HRX.out.below hb);replace HNX:=hid (HNX.out.to (fun b h=>hb.block b h.2) (fun b h=>(⟨h.1,qXr h.2 hb.size⟩:p < b /\ b < w4.heap.size)));have HB:=hid (HB3.out.trans (hb.mono HB3.out.size))
 clear hb HB3 HMY HW3 HX1 HX2 HB1 HR1 hp1 hp2 hp3
 cases hM:jT N with
 | false =>
   go_wp2_with fail;go_ret;exact ⟨rfl,HB.out⟩
 | true =>
   have HMN:=hid hM;clear hM;have hc:=qGs V' N w4 HRX.out;rw [HVN.out,HID.out] at hc;have HCT:=hid hc;clear hc;have b0:=HC.out.cell 0 _ rfl;have b1:=HC.out.cell 1 _ rfl;have b2:=HC.out.cell 2 _ rfl;have b3:=HC.out.cell 3 _ rfl;have b4:=HC.out.cell 4 _ rfl;have b5:=HC.out.cell 5 _ rfl;have b6:=HC.out.cell 6 _ rfl;have b7:=HC.out.cell 7 _ rfl;have b8:=HC.out.cell 8 _ rfl;have b9:=HC.out.cell 9 _ rfl;have b10:=HC.out.cell 10 _ rfl;have b11:=HC.out.cell 11 _ rfl;have b12:=HC.out.cell 12 _ rfl;have b13:=HC.out.cell 13 _ rfl;go_wp2_with fail;clear b0 b1 b2 b3 b4 b5 b6 b7 b8 b9 b10 b11 b12 b13;refine HCT.out.mono ?_;rintro e w5 ⟨V2,rfl,hx,hb⟩;replace HC:=hid (HC.out.below (qW5 _) hb);replace HB:=hid (HB.out.trans (hb.mono HB.out.size))
   obtain ⟨q,hq⟩:∃ q,w5.heap.size=q:=⟨_,rfl⟩
   have hpq:p < q:=by have:=hb.size;omega
   obtain ⟨⟨st,ut,vt⟩,⟨si,ui,vi⟩,⟨sf,uf,vf⟩,⟨sg,ug,vg⟩,⟨se,ue,ve⟩,⟨sl,ul,vl⟩,⟨sc,uc,vc⟩,⟨sd,ud,vd⟩⟩:=V2;have hv2:MoV.cells ⟨⟨st,ut,vt⟩,⟨si,ui,vi⟩,⟨sf,uf,vf⟩,⟨sg,ug,vg⟩,⟨se,ue,ve⟩,⟨sl,ul,vl⟩,⟨sc,uc,vc⟩,⟨sd,ud,vd⟩⟩ N=[.slice st ut vt,.slice si ui vi,.slice sf uf vf,.bool th',.int .i64 tm',.int .i64 tx',.bool mh',.int .i64 mm',.int .i64 mx',.slice sg ug vg,.slice se ue ve,.slice sl ul vl,.slice sc uc vc,.slice sd ud vd]:=by rw [<- HTH.out.1.1,<- HTH.out.1.2.1,<- HTH.out.1.2.2,<- HTH.out.2.1,<- HTH.out.2.2.1,<- HTH.out.2.2.2];rfl
   rw [hv2];have hn6:Bx (fun b=>p < b /\ b < q) w5 (MoR V' N):=HNX.out.to (fun b h=>hb.block b h.2) (fun b h=>⟨h.1,by have:=h.2;have:=hb.size;omega⟩)
   have hR2:Bx (fun b=>p < b /\ b < q) w5 (MoR ⟨⟨st,ut,vt⟩,⟨si,ui,vi⟩,⟨sf,uf,vf⟩,⟨sg,ug,vg⟩,⟨se,ue,ve⟩,⟨sl,ul,vl⟩,⟨sc,uc,vc⟩,⟨sd,ud,vd⟩⟩ N):=hx.more fun b hb=>⟨by omega,by omega⟩
   have hcq:Cel (w5.alloc (.cells #[.slice st ut vt,.slice si ui vi,.slice sf uf vf,.bool th',.int .i64 tm',.int .i64 tx',.bool mh',.int .i64 mm',.int .i64 mx',.slice sg ug vg,.slice se ue ve,.slice sl ul vl,.slice sc uc vc,.slice sd ud vd] 33)) q [.slice st ut vt,.slice si ui vi,.slice sf uf vf,.bool th',.int .i64 tm',.int .i64 tx',.bool mh',.int .i64 mm',.int .i64 mx',.slice sg ug vg,.slice se ue ve,.slice sl ul vl,.slice sc uc vc,.slice sd ud vd]:=hq ▸ Cel.new w5 [.slice st ut vt,.slice si ui vi,.slice sf uf vf,.bool th',.int .i64 tm',.int .i64 tx',.bool mh',.int .i64 mm',.int .i64 mx',.slice sg ug vg,.slice se ue ve,.slice sl ul vl,.slice sc uc vc,.slice sd ud vd] 33;have hb6:Below w5.heap.size w5 (w5.alloc (.cells #[.slice st ut vt,.slice si ui vi,.slice sf uf vf,.bool th',.int .i64 tm',.int .i64 tx',.bool mh',.int .i64 mm',.int .i64 mx',.slice sg ug vg,.slice se ue ve,.slice sl ul vl,.slice sc uc vc,.slice sd ud vd] 33)):=Bl.alloc (Bl.refl w5) _
   obtain ⟨w6,hw6⟩:∃ x,(w5.alloc (.cells #[.slice st ut vt,.slice si ui vi,.slice sf uf vf,.bool th',.int .i64 tm',.int .i64 tx',.bool mh',.int .i64 mm',.int .i64 mx',.slice sg ug vg,.slice se ue ve,.slice sl ul vl,.slice sc uc vc,.slice sd ud vd] 33))=x:=⟨_,rfl⟩
   rw [hw6] at hcq hb6;have HCQ:=hid hcq;have HR2:=hid (hR2.keep fun b h=>hb6.block b (by omega));replace HNX:=hid (hn6.keep fun b h=>hb6.block b (by omega));have HW6:=hid hw6;have HQ:=hid hq;replace HC:=hid (HC.out.below (qW5 _) hb6);replace HB:=hid (HB.out.trans (hb6.mono HB.out.size));clear hx hb hv2 hR2 hn6 hcq hb6 hw6 hq HCT hp4 HRX;have hb0:=HMB.out.1;have hb1:=HMB.out.2;go_upto_block 0 with fail;rw [HW6.out,HQ.out];have hj0:=Int.emod_nonneg (Int.tmod wh 7 + 7) (show (7:Int) ≠ 0 by decide);have hj1:=Int.emod_lt_of_pos (Int.tmod wh 7 + 7) (show (0:Int) < 7 by decide)
   obtain ⟨jj,hjj⟩:∃ jj,(Int.tmod wh 7 + 7) % 7=jj:=⟨_,rfl⟩
   rw [hjj] at hj0 hj1 ⊢;clear hjj hb0 hb1 HM7 HMB;go_cut [7] from 24 to 70 (fun u wc=>∃ (j:Nat) (V3:MoV),u=.bool (qBh j N) /\ Hid (Below w.heap.size w wc) /\ Hid (Cel wc p [.slice pt mt rt,.slice pi mi ri,.slice pf mf rf,.bool th',.int .i64 tm',.int .i64 tx',.bool mh',.int .i64 mm',.int .i64 mx',.slice pg mg rg,.slice pe me re,.slice pl ml rl,.slice pc mc rc,.slice pd md rd]) /\ Hid (Cel wc q (V3.cells (zJ j N))) /\ Hid (Bx (fun b=>p < b /\ b < q) wc (MoR V' N)) /\ Hid (Bx (fun b=>p < b /\ b < q) wc (MoR V3 (zJ j N))))
   case first =>
    have hq6:q < w6.heap.size:=HCQ.out.lt (qW5 _);have hp6:p < w6.heap.size:=by omega
    rcases (by omega:jj=0 ∨ jj=1 ∨ jj=2 ∨ jj=3 ∨ jj=4 ∨ jj=5 ∨ jj=6) with rfl | rfl | rfl | rfl | rfl | rfl | rfl
    ·
     clear hj0 hj1;have b0:=HC.out.cell 0 _ rfl;have d0:=HCQ.out.cell 0 _ rfl;have fd0:=HCQ.out.fro 0 _ rfl;go_wp2_with fail;go_meet
     case rel =>
      have hg:w6.grownBy (w6.setCell ⟨q,0,none⟩ (.slice none 0 0)) (some q):=(qC (qO _ _) 0 _)
      have hcs:MoV.cells ⟨⟨none,0,0⟩,⟨si,ui,vi⟩,⟨sf,uf,vf⟩,⟨sg,ug,vg⟩,⟨se,ue,ve⟩,⟨sl,ul,vl⟩,⟨sc,uc,vc⟩,⟨sd,ud,vd⟩⟩ (zJ 0 N)=[.slice none 0 0,.slice si ui vi,.slice sf uf vf,.bool th',.int .i64 tm',.int .i64 tx',.bool mh',.int .i64 mm',.int .i64 mx',.slice sg ug vg,.slice se ue ve,.slice sl ul vl,.slice sc uc vc,.slice sd ud vd]:=by rw [<- HTH.out.1.1,<- HTH.out.1.2.1,<- HTH.out.1.2.2,<- HTH.out.2.1,<- HTH.out.2.2.1,<- HTH.out.2.2.2];rfl
      refine ⟨0,⟨⟨none,0,0⟩,⟨si,ui,vi⟩,⟨sf,uf,vf⟩,⟨sg,ug,vg⟩,⟨se,ue,ve⟩,⟨sl,ul,vl⟩,⟨sc,uc,vc⟩,⟨sd,ud,vd⟩⟩,by rw [show qBh 0 N=decide (0 < N.types.length) from rfl,show N.types.length=mt from by have:=HNX.out.now.t.len;rw [HV.out] at this;exact this];try simp,hid (qAb HB.out hg HB.out.size (by have:=HP.out;omega)),hid (HC.out.grown (qW5 _) hg (by simp;omega)),hid (by rw [hcs];exact HCQ.out.set 0 (.slice none 0 0) (by simp)),hid (qJy HNX.out hg (Nat.le_of_lt hq6)),hid (qJy (HR2.out.imp fun w a=>⟨RdG.empty w,a.i,a.f,a.g,a.e,a.l,a.c,a.d⟩) hg (Nat.le_of_lt hq6))⟩
    ·
     clear hj0 hj1;have b0:=HC.out.cell 1 _ rfl;have d0:=HCQ.out.cell 1 _ rfl;have fd0:=HCQ.out.fro 1 _ rfl;go_wp2_with fail;go_meet
     case rel =>
      have hg:w6.grownBy (w6.setCell ⟨q,1,none⟩ (.slice none 0 0)) (some q):=(qC (qO _ _) 1 _)
      have hcs:MoV.cells ⟨⟨st,ut,vt⟩,⟨none,0,0⟩,⟨sf,uf,vf⟩,⟨sg,ug,vg⟩,⟨se,ue,ve⟩,⟨sl,ul,vl⟩,⟨sc,uc,vc⟩,⟨sd,ud,vd⟩⟩ (zJ 1 N)=[.slice st ut vt,.slice none 0 0,.slice sf uf vf,.bool th',.int .i64 tm',.int .i64 tx',.bool mh',.int .i64 mm',.int .i64 mx',.slice sg ug vg,.slice se ue ve,.slice sl ul vl,.slice sc uc vc,.slice sd ud vd]:=by rw [<- HTH.out.1.1,<- HTH.out.1.2.1,<- HTH.out.1.2.2,<- HTH.out.2.1,<- HTH.out.2.2.1,<- HTH.out.2.2.2];rfl
      refine ⟨1,⟨⟨st,ut,vt⟩,⟨none,0,0⟩,⟨sf,uf,vf⟩,⟨sg,ug,vg⟩,⟨se,ue,ve⟩,⟨sl,ul,vl⟩,⟨sc,uc,vc⟩,⟨sd,ud,vd⟩⟩,by rw [show qBh 1 N=decide (0 < N.imports.length) from rfl,show N.imports.length=mi from by have:=HNX.out.now.i.len;rw [HV.out] at this;exact this];try simp,hid (qAb HB.out hg HB.out.size (by have:=HP.out;omega)),hid (HC.out.grown (qW5 _) hg (by simp;omega)),hid (by rw [hcs];exact HCQ.out.set 1 (.slice none 0 0) (by simp)),hid (qJy HNX.out hg (Nat.le_of_lt hq6)),hid (qJy (HR2.out.imp fun w a=>⟨a.t,RdG.empty w,a.f,a.g,a.e,a.l,a.c,a.d⟩) hg (Nat.le_of_lt hq6))⟩
    ·
     clear hj0 hj1;have b0:=HC.out.cell 9 _ rfl;have d0:=HCQ.out.cell 9 _ rfl;have fd0:=HCQ.out.fro 9 _ rfl;go_wp2_with fail;go_meet
     case rel =>
      have hg:w6.grownBy (w6.setCell ⟨q,9,none⟩ (.slice none 0 0)) (some q):=(qC (qO _ _) 9 _)
      have hcs:MoV.cells ⟨⟨st,ut,vt⟩,⟨si,ui,vi⟩,⟨sf,uf,vf⟩,⟨none,0,0⟩,⟨se,ue,ve⟩,⟨sl,ul,vl⟩,⟨sc,uc,vc⟩,⟨sd,ud,vd⟩⟩ (zJ 2 N)=[.slice st ut vt,.slice si ui vi,.slice sf uf vf,.bool th',.int .i64 tm',.int .i64 tx',.bool mh',.int .i64 mm',.int .i64 mx',.slice none 0 0,.slice se ue ve,.slice sl ul vl,.slice sc uc vc,.slice sd ud vd]:=by rw [<- HTH.out.1.1,<- HTH.out.1.2.1,<- HTH.out.1.2.2,<- HTH.out.2.1,<- HTH.out.2.2.1,<- HTH.out.2.2.2];rfl
      refine ⟨2,⟨⟨st,ut,vt⟩,⟨si,ui,vi⟩,⟨sf,uf,vf⟩,⟨none,0,0⟩,⟨se,ue,ve⟩,⟨sl,ul,vl⟩,⟨sc,uc,vc⟩,⟨sd,ud,vd⟩⟩,by rw [show qBh 2 N=decide (0 < N.globals.length) from rfl,show N.globals.length=mg from by have:=HNX.out.now.g.len;rw [HV.out] at this;exact this];try simp,hid (qAb HB.out hg HB.out.size (by have:=HP.out;omega)),hid (HC.out.grown (qW5 _) hg (by simp;omega)),hid (by rw [hcs];exact HCQ.out.set 9 (.slice none 0 0) (by simp)),hid (qJy HNX.out hg (Nat.le_of_lt hq6)),hid (qJy (HR2.out.imp fun w a=>⟨a.t,a.i,a.f,RdG.empty w,a.e,a.l,a.c,a.d⟩) hg (Nat.le_of_lt hq6))⟩
    ·
     clear hj0 hj1;have b0:=HC.out.cell 10 _ rfl;have d0:=HCQ.out.cell 10 _ rfl;have fd0:=HCQ.out.fro 10 _ rfl;go_wp2_with fail;go_meet
     case rel =>
      have hg:w6.grownBy (w6.setCell ⟨q,10,none⟩ (.slice none 0 0)) (some q):=(qC (qO _ _) 10 _)
      have hcs:MoV.cells ⟨⟨st,ut,vt⟩,⟨si,ui,vi⟩,⟨sf,uf,vf⟩,⟨sg,ug,vg⟩,⟨none,0,0⟩,⟨sl,ul,vl⟩,⟨sc,uc,vc⟩,⟨sd,ud,vd⟩⟩ (zJ 3 N)=[.slice st ut vt,.slice si ui vi,.slice sf uf vf,.bool th',.int .i64 tm',.int .i64 tx',.bool mh',.int .i64 mm',.int .i64 mx',.slice sg ug vg,.slice none 0 0,.slice sl ul vl,.slice sc uc vc,.slice sd ud vd]:=by rw [<- HTH.out.1.1,<- HTH.out.1.2.1,<- HTH.out.1.2.2,<- HTH.out.2.1,<- HTH.out.2.2.1,<- HTH.out.2.2.2];rfl
      refine ⟨3,⟨⟨st,ut,vt⟩,⟨si,ui,vi⟩,⟨sf,uf,vf⟩,⟨sg,ug,vg⟩,⟨none,0,0⟩,⟨sl,ul,vl⟩,⟨sc,uc,vc⟩,⟨sd,ud,vd⟩⟩,by rw [show qBh 3 N=decide (0 < N.exports.length) from rfl,show N.exports.length=me from by have:=HNX.out.now.e.len;rw [HV.out] at this;exact this];try simp,hid (qAb HB.out hg HB.out.size (by have:=HP.out;omega)),hid (HC.out.grown (qW5 _) hg (by simp;omega)),hid (by rw [hcs];exact HCQ.out.set 10 (.slice none 0 0) (by simp)),hid (qJy HNX.out hg (Nat.le_of_lt hq6)),hid (qJy (HR2.out.imp fun w a=>⟨a.t,a.i,a.f,a.g,RdG.empty w,a.l,a.c,a.d⟩) hg (Nat.le_of_lt hq6))⟩
    ·
     clear hj0 hj1;have b0:=HC.out.cell 11 _ rfl;have d0:=HCQ.out.cell 11 _ rfl;have fd0:=HCQ.out.fro 11 _ rfl;go_wp2_with fail;go_meet
     case rel =>
      have hg:w6.grownBy (w6.setCell ⟨q,11,none⟩ (.slice none 0 0)) (some q):=(qC (qO _ _) 11 _)
      have hcs:MoV.cells ⟨⟨st,ut,vt⟩,⟨si,ui,vi⟩,⟨sf,uf,vf⟩,⟨sg,ug,vg⟩,⟨se,ue,ve⟩,⟨none,0,0⟩,⟨sc,uc,vc⟩,⟨sd,ud,vd⟩⟩ (zJ 4 N)=[.slice st ut vt,.slice si ui vi,.slice sf uf vf,.bool th',.int .i64 tm',.int .i64 tx',.bool mh',.int .i64 mm',.int .i64 mx',.slice sg ug vg,.slice se ue ve,.slice none 0 0,.slice sc uc vc,.slice sd ud vd]:=by rw [<- HTH.out.1.1,<- HTH.out.1.2.1,<- HTH.out.1.2.2,<- HTH.out.2.1,<- HTH.out.2.2.1,<- HTH.out.2.2.2];rfl
      refine ⟨4,⟨⟨st,ut,vt⟩,⟨si,ui,vi⟩,⟨sf,uf,vf⟩,⟨sg,ug,vg⟩,⟨se,ue,ve⟩,⟨none,0,0⟩,⟨sc,uc,vc⟩,⟨sd,ud,vd⟩⟩,by rw [show qBh 4 N=decide (0 < N.elems.length) from rfl,show N.elems.length=ml from by have:=HNX.out.now.l.len;rw [HV.out] at this;exact this];try simp,hid (qAb HB.out hg HB.out.size (by have:=HP.out;omega)),hid (HC.out.grown (qW5 _) hg (by simp;omega)),hid (by rw [hcs];exact HCQ.out.set 11 (.slice none 0 0) (by simp)),hid (qJy HNX.out hg (Nat.le_of_lt hq6)),hid (qJy (HR2.out.imp fun w a=>⟨a.t,a.i,a.f,a.g,a.e,RdG.empty w,a.c,a.d⟩) hg (Nat.le_of_lt hq6))⟩
    ·
     clear hj0 hj1;have b0:=HC.out.cell 13 _ rfl;have d0:=HCQ.out.cell 13 _ rfl;have fd0:=HCQ.out.fro 13 _ rfl;go_wp2_with fail;go_meet
     case rel =>
      have hg:w6.grownBy (w6.setCell ⟨q,13,none⟩ (.slice none 0 0)) (some q):=(qC (qO _ _) 13 _)
      have hcs:MoV.cells ⟨⟨st,ut,vt⟩,⟨si,ui,vi⟩,⟨sf,uf,vf⟩,⟨sg,ug,vg⟩,⟨se,ue,ve⟩,⟨sl,ul,vl⟩,⟨sc,uc,vc⟩,⟨none,0,0⟩⟩ (zJ 5 N)=[.slice st ut vt,.slice si ui vi,.slice sf uf vf,.bool th',.int .i64 tm',.int .i64 tx',.bool mh',.int .i64 mm',.int .i64 mx',.slice sg ug vg,.slice se ue ve,.slice sl ul vl,.slice sc uc vc,.slice none 0 0]:=by rw [<- HTH.out.1.1,<- HTH.out.1.2.1,<- HTH.out.1.2.2,<- HTH.out.2.1,<- HTH.out.2.2.1,<- HTH.out.2.2.2];rfl
      refine ⟨5,⟨⟨st,ut,vt⟩,⟨si,ui,vi⟩,⟨sf,uf,vf⟩,⟨sg,ug,vg⟩,⟨se,ue,ve⟩,⟨sl,ul,vl⟩,⟨sc,uc,vc⟩,⟨none,0,0⟩⟩,by rw [show qBh 5 N=decide (0 < N.datas.length) from rfl,show N.datas.length=md from by have:=HNX.out.now.d.len;rw [HV.out] at this;exact this];try simp,hid (qAb HB.out hg HB.out.size (by have:=HP.out;omega)),hid (HC.out.grown (qW5 _) hg (by simp;omega)),hid (by rw [hcs];exact HCQ.out.set 13 (.slice none 0 0) (by simp)),hid (qJy HNX.out hg (Nat.le_of_lt hq6)),hid (qJy (HR2.out.imp fun w a=>⟨a.t,a.i,a.f,a.g,a.e,a.l,a.c,RdG.empty w⟩) hg (Nat.le_of_lt hq6))⟩
    ·
     clear hj0 hj1;have b0:=HC.out.cell 6 _ rfl;have d6:=HCQ.out.cell 6 _ rfl;have fd6:=HCQ.out.fro 6 _ rfl;have d7:=HCQ.out.cell 7 _ rfl;have fd7:=HCQ.out.fro 7 _ rfl;have d8:=HCQ.out.cell 8 _ rfl;have fd8:=HCQ.out.fro 8 _ rfl;go_wp2_with fail;go_meet
     case rel =>
      have hg:w6.grownBy (((w6.setCell ⟨q,6,none⟩ (.bool false)).setCell ⟨q,7,none⟩ (.int .i64 0)).setCell ⟨q,8,none⟩ (.int .i64 0)) (some q):=(qC (qC (qC (qO _ _) 6 _) 7 _) 8 _)
      have hcs:MoV.cells ⟨⟨st,ut,vt⟩,⟨si,ui,vi⟩,⟨sf,uf,vf⟩,⟨sg,ug,vg⟩,⟨se,ue,ve⟩,⟨sl,ul,vl⟩,⟨sc,uc,vc⟩,⟨sd,ud,vd⟩⟩ (zJ 6 N)=[.slice st ut vt,.slice si ui vi,.slice sf uf vf,.bool th',.int .i64 tm',.int .i64 tx',.bool false,.int .i64 0,.int .i64 0,.slice sg ug vg,.slice se ue ve,.slice sl ul vl,.slice sc uc vc,.slice sd ud vd]:=by rw [<- HTH.out.1.1,<- HTH.out.1.2.1,<- HTH.out.1.2.2];rfl
      refine ⟨6,⟨⟨st,ut,vt⟩,⟨si,ui,vi⟩,⟨sf,uf,vf⟩,⟨sg,ug,vg⟩,⟨se,ue,ve⟩,⟨sl,ul,vl⟩,⟨sc,uc,vc⟩,⟨sd,ud,vd⟩⟩,by rw [<- HMH.out];rfl,hid (qAb HB.out hg HB.out.size (by have:=HP.out;omega)),hid (HC.out.grown (qW5 _) hg (by simp;omega)),hid (by rw [hcs];exact ((HCQ.out.set 6 (.bool false) (by simp)).set 7 (.int .i64 0) (by simp)).set 8 (.int .i64 0) (by simp)),hid (qJy HNX.out hg (Nat.le_of_lt hq6)),hid (qJy (HR2.out.imp fun w a=>⟨a.t,a.i,a.f,a.g,a.e,a.l,a.c,a.d⟩) hg (Nat.le_of_lt hq6))⟩
   case rest =>
    obtain ⟨j,V3,rfl,HB,HC,HQ3,HNX,HX3⟩:=hcut
    obtain ⟨ws,rfl⟩:∃ wo:World,wo=wc:=⟨_,rfl⟩
    have h1:=qRf j N HMN.out;have h2:=qJ0 j N;have h3:=qTy j N HMN.out;have h4:=qDm j N HMN.out;have h5:(zJ j N).imports.length <= 1000000 /\ (zJ j N).funcs.length <= 1000000:=qMq h1
    obtain ⟨N3,hN3⟩:∃ N3,zJ j N=N3:=⟨_,rfl⟩
    obtain ⟨had,hhad⟩:∃ b,qBh j N=b:=⟨_,rfl⟩
    rw [hN3] at HQ3 HX3 h1 h2 h3 h4 h5;rw [hhad] at h2 h3 h4 ⊢;clear hN3 hhad;obtain ⟨⟨xt,yt,zt⟩,⟨xi,yi,zi⟩,⟨xf,yf,zf⟩,⟨xg,yg,zg⟩,⟨xe,ye,ze⟩,⟨xl,yl,zl⟩,⟨xc,yc,zc⟩,⟨xd,yd,zd⟩⟩:=V3
    obtain ⟨th3,hth3⟩:∃ z,N3.table.has=z:=⟨_,rfl⟩
    obtain ⟨tm3,htm3⟩:∃ z,N3.table.mn=z:=⟨_,rfl⟩
    obtain ⟨tx3,htx3⟩:∃ z,N3.table.mx=z:=⟨_,rfl⟩
    obtain ⟨mh3,hmh3⟩:∃ z,N3.mem.has=z:=⟨_,rfl⟩
    obtain ⟨mm3,hmm3⟩:∃ z,N3.mem.mn=z:=⟨_,rfl⟩
    obtain ⟨mx3,hmx3⟩:∃ z,N3.mem.mx=z:=⟨_,rfl⟩
    have hvc:MoV.cells ⟨⟨xt,yt,zt⟩,⟨xi,yi,zi⟩,⟨xf,yf,zf⟩,⟨xg,yg,zg⟩,⟨xe,ye,ze⟩,⟨xl,yl,zl⟩,⟨xc,yc,zc⟩,⟨xd,yd,zd⟩⟩ N3=[.slice xt yt zt,.slice xi yi zi,.slice xf yf zf,.bool th3,.int .i64 tm3,.int .i64 tx3,.bool mh3,.int .i64 mm3,.int .i64 mx3,.slice xg yg zg,.slice xe ye ze,.slice xl yl zl,.slice xc yc zc,.slice xd yd zd]:=by rw [<- hth3,<- htm3,<- htx3,<- hmh3,<- hmm3,<- hmx3];rfl
    clear hth3 htm3 htx3 hmh3 hmm3 hmx3
    obtain ⟨V3,hV3⟩:∃ V:MoV,V=⟨⟨xt,yt,zt⟩,⟨xi,yi,zi⟩,⟨xf,yf,zf⟩,⟨xg,yg,zg⟩,⟨xe,ye,ze⟩,⟨xl,yl,zl⟩,⟨xc,yc,zc⟩,⟨xd,yd,zd⟩⟩:=⟨_,rfl⟩
    rw [<- hV3] at hvc HQ3 HX3;clear hV3;rw [hvc] at HQ3;have hq6:q < ws.heap.size:=HQ3.out.lt (qW5 _);have hp6:p < ws.heap.size:=by omega
    have hen:qQ7 N=moE N:=by unfold qQ7;rw [if_pos HMN.out]
    have hen3:qQ7 N3=moE N3:=by unfold qQ7;rw [if_pos h1]
    have hE1:=fun w1 (hC:Below ws.heap.size ws w1)=>qBe V' N w1 (Rx.below (HNX.out.more fun b hb=>by omega:Rx ws (MoR V' N)) hC) HIM.out HFU.out
    have hE3:=fun w1 (hC:Below ws.heap.size ws w1)=>qBe V3 N3 w1 (Rx.below (HX3.out.more fun b hb=>by omega:Rx ws (MoR V3 N3)) hC) h5.1 h5.2
    rw [HVN.out,hen] at hE1;rw [hvc,hen3] at hE3;have HV3:=hid hvc;have H1:=hid h1;have H2:=hid h2;have H3:=hid h3;have H4:=hid h4;have H5:=hid h5;have HE1:=hid hE1;have HE3:=hid hE3;clear hvc h1 h2 h3 h4 h5 hE1 hE3 hen hen3;go_upto_region 23 with fail;refine qCw (by kernel_rfl) [Is (.agg #[.slice pt mt rt,.slice pi mi ri,.slice pf mf rf,.bool th',.int .i64 tm',.int .i64 tx',.bool mh',.int .i64 mm',.int .i64 mx',.slice pg mg rg,.slice pe me re,.slice pl ml rl,.slice pc mc rc,.slice pd md rd]),jW 5 .u8 ws.heap.size (moE N),Is (.agg #[.slice xt yt zt,.slice xi yi zi,.slice xf yf zf,.bool th3,.int .i64 tm3,.int .i64 tx3,.bool mh3,.int .i64 mm3,.int .i64 mx3,.slice xg yg zg,.slice xe ye ze,.slice xl yl zl,.slice xc yc zc,.slice xd yd zd]),jW 5 .u8 ws.heap.size (moE N3),jW 5 .u8 ws.heap.size (moE N),jW 5 .u8 ws.heap.size (moE N3)] [0,1,2,3,4,5] rfl (by kernel_rfl) rfl ?hopE ?hstE ?hendE
    case hopE =>
     refine ⟨rq (Is (.agg #[.slice pt mt rt,.slice pi mi ri,.slice pf mf rf,.bool th',.int .i64 tm',.int .i64 tx',.bool mh',.int .i64 mm',.int .i64 mx',.slice pg mg rg,.slice pe me re,.slice pl ml rl,.slice pc mc rc,.slice pd md rd])) none [] [(2,.pointer (some ⟨p,0,none⟩))] ⟨⟨by kernel_rfl,rfl⟩,trivial⟩ ?_,?_⟩
     ·intro a w1 hC e2
      refine Or.inl ⟨.agg #[.slice pt mt rt,.slice pi mi ri,.slice pf mf rf,.bool th',.int .i64 tm',.int .i64 tx',.bool mh',.int .i64 mm',.int .i64 mx',.slice pg mg rg,.slice pe me re,.slice pl ml rl,.slice pc mc rc,.slice pd md rd],?_,rfl⟩;have f0:=(HC.out.below (qW5 _) hC).cell 0 _ rfl;have f1:=(HC.out.below (qW5 _) hC).cell 1 _ rfl;have f2:=(HC.out.below (qW5 _) hC).cell 2 _ rfl;have f3:=(HC.out.below (qW5 _) hC).cell 3 _ rfl;have f4:=(HC.out.below (qW5 _) hC).cell 4 _ rfl;have f5:=(HC.out.below (qW5 _) hC).cell 5 _ rfl;have f6:=(HC.out.below (qW5 _) hC).cell 6 _ rfl;have f7:=(HC.out.below (qW5 _) hC).cell 7 _ rfl;have f8:=(HC.out.below (qW5 _) hC).cell 8 _ rfl;have f9:=(HC.out.below (qW5 _) hC).cell 9 _ rfl;have f10:=(HC.out.below (qW5 _) hC).cell 10 _ rfl;have f11:=(HC.out.below (qW5 _) hC).cell 11 _ rfl;have f12:=(HC.out.below (qW5 _) hC).cell 12 _ rfl;have f13:=(HC.out.below (qW5 _) hC).cell 13 _ rfl;go_simp
     refine ⟨rq (jW 5 .u8 ws.heap.size (moE N)) none [(some 71,Is (.agg #[.slice pt mt rt,.slice pi mi ri,.slice pf mf rf,.bool th',.int .i64 tm',.int .i64 tx',.bool mh',.int .i64 mm',.int .i64 mx',.slice pg mg rg,.slice pe me re,.slice pl ml rl,.slice pc mc rc,.slice pd md rd]))] [] trivial ?_,?_⟩
     ·intro a w1 hC (h0:a.tmps.getD 71 undef=_)
      refine Or.inr (Or.inl ⟨11,#[.agg #[.slice pt mt rt,.slice pi mi ri,.slice pf mf rf,.bool th',.int .i64 tm',.int .i64 tx',.bool mh',.int .i64 mm',.int .i64 mx',.slice pg mg rg,.slice pe me re,.slice pl ml rl,.slice pc mc rc,.slice pd md rd]],?_,?_⟩)
      ·go_simp
      ·refine (HE1.out w1 hC).mono ?_
       rintro e w2 ⟨vv,rfl,hown,hbel⟩;exact ⟨_,rfl,hown.lift hC.size,hbel⟩
     refine ⟨rq (Is (.agg #[.slice xt yt zt,.slice xi yi zi,.slice xf yf zf,.bool th3,.int .i64 tm3,.int .i64 tx3,.bool mh3,.int .i64 mm3,.int .i64 mx3,.slice xg yg zg,.slice xe ye ze,.slice xl yl zl,.slice xc yc zc,.slice xd yd zd])) none [] [(6,.pointer (some ⟨q,0,none⟩))] ⟨⟨by kernel_rfl,rfl⟩,trivial⟩ ?_,?_⟩
     ·intro a w1 hC e6
      refine Or.inl ⟨.agg #[.slice xt yt zt,.slice xi yi zi,.slice xf yf zf,.bool th3,.int .i64 tm3,.int .i64 tx3,.bool mh3,.int .i64 mm3,.int .i64 mx3,.slice xg yg zg,.slice xe ye ze,.slice xl yl zl,.slice xc yc zc,.slice xd yd zd],?_,rfl⟩;have f0:=(HQ3.out.below (qW5 _) hC).cell 0 _ rfl;have f1:=(HQ3.out.below (qW5 _) hC).cell 1 _ rfl;have f2:=(HQ3.out.below (qW5 _) hC).cell 2 _ rfl;have f3:=(HQ3.out.below (qW5 _) hC).cell 3 _ rfl;have f4:=(HQ3.out.below (qW5 _) hC).cell 4 _ rfl;have f5:=(HQ3.out.below (qW5 _) hC).cell 5 _ rfl;have f6:=(HQ3.out.below (qW5 _) hC).cell 6 _ rfl;have f7:=(HQ3.out.below (qW5 _) hC).cell 7 _ rfl;have f8:=(HQ3.out.below (qW5 _) hC).cell 8 _ rfl;have f9:=(HQ3.out.below (qW5 _) hC).cell 9 _ rfl;have f10:=(HQ3.out.below (qW5 _) hC).cell 10 _ rfl;have f11:=(HQ3.out.below (qW5 _) hC).cell 11 _ rfl;have f12:=(HQ3.out.below (qW5 _) hC).cell 12 _ rfl;have f13:=(HQ3.out.below (qW5 _) hC).cell 13 _ rfl;go_simp
     refine ⟨rq (jW 5 .u8 ws.heap.size (moE N3)) none [(some 73,Is (.agg #[.slice xt yt zt,.slice xi yi zi,.slice xf yf zf,.bool th3,.int .i64 tm3,.int .i64 tx3,.bool mh3,.int .i64 mm3,.int .i64 mx3,.slice xg yg zg,.slice xe ye ze,.slice xl yl zl,.slice xc yc zc,.slice xd yd zd])),(some 72,jW 5 .u8 ws.heap.size (moE N))] [] trivial ?_,?_⟩
     ·intro a w1 hC (h2:a.tmps.getD 73 undef=_) h1
      refine Or.inr (Or.inl ⟨11,#[.agg #[.slice xt yt zt,.slice xi yi zi,.slice xf yf zf,.bool th3,.int .i64 tm3,.int .i64 tx3,.bool mh3,.int .i64 mm3,.int .i64 mx3,.slice xg yg zg,.slice xe ye ze,.slice xl yl zl,.slice xc yc zc,.slice xd yd zd]],?_,?_⟩)
      ·go_simp
      ·refine (HE3.out w1 hC).mono ?_
       rintro e w2 ⟨vv,rfl,hown,hbel⟩;exact ⟨_,rfl,hown.lift hC.size,hbel⟩
     refine ⟨rq (jW 5 .u8 ws.heap.size (moE N)) none [(some 72,jW 5 .u8 ws.heap.size (moE N)),(some 74,jW 5 .u8 ws.heap.size (moE N3)),(some 71,Is (.agg #[.slice pt mt rt,.slice pi mi ri,.slice pf mf rf,.bool th',.int .i64 tm',.int .i64 tx',.bool mh',.int .i64 mm',.int .i64 mx',.slice pg mg rg,.slice pe me re,.slice pl ml rl,.slice pc mc rc,.slice pd md rd])),(some 72,jW 5 .u8 ws.heap.size (moE N))] [] trivial ?_,?_⟩
     ·intro a w1 hC h1 h3 (h0:a.tmps.getD 71 undef=_) _
      refine Or.inl ⟨_,?_,h1⟩;go_simp
      all_goals simp [zZ]
     refine ⟨rq (jW 5 .u8 ws.heap.size (moE N3)) none [(some 74,jW 5 .u8 ws.heap.size (moE N3)),(some 8,jW 5 .u8 ws.heap.size (moE N)),(some 71,Is (.agg #[.slice pt mt rt,.slice pi mi ri,.slice pf mf rf,.bool th',.int .i64 tm',.int .i64 tx',.bool mh',.int .i64 mm',.int .i64 mx',.slice pg mg rg,.slice pe me re,.slice pl ml rl,.slice pc mc rc,.slice pd md rd])),(some 72,jW 5 .u8 ws.heap.size (moE N)),(some 73,Is (.agg #[.slice xt yt zt,.slice xi yi zi,.slice xf yf zf,.bool th3,.int .i64 tm3,.int .i64 tx3,.bool mh3,.int .i64 mm3,.int .i64 mx3,.slice xg yg zg,.slice xe ye ze,.slice xl yl zl,.slice xc yc zc,.slice xd yd zd])),(some 74,jW 5 .u8 ws.heap.size (moE N3)),(some 8,jW 5 .u8 ws.heap.size (moE N))] [] trivial ?_,?_⟩
     ·intro a w1 hC h3 h4 (h0:a.tmps.getD 71 undef=_) h1 (h2:a.tmps.getD 73 undef=_) _ _
      refine Or.inl ⟨_,?_,h3⟩;go_simp
      all_goals simp [zZ]
     exact trivial
    case hstE=>exact ⟨qB.is _,qB.own _ _ _ _,qB.is _,qB.own _ _ _ _,qB.own _ _ _ _,qB.own _ _ _ _,trivial⟩
    case hendE =>
     intro w1 hC;rintro _ rfl;intro x1 h1;rintro _ rfl;intro x3 h3;intro x4 h4;intro x5 h5;simp only [xV,Act.put,qXj,qXp,qXo];obtain ⟨oa,ka,rfl,hra⟩:=Own.rd h4;obtain ⟨ob,kb,rfl,hrb⟩:=Own.rd h5
     obtain ⟨la,hla⟩:∃ n,(moE N).length=n:=⟨_,rfl⟩
     obtain ⟨lb,hlb⟩:∃ n,(moE N3).length=n:=⟨_,rfl⟩
     have h8:8 <= lb:=by rw [<- hlb];exact qWf N3
     have h9:=H2.out;rw [hla] at hra h9 ⊢;rw [hlb] at hrb h9 ⊢;have hl6:la <= 8000:=by rw [<- hla];exact qAw HMN.out
     have HRA:=hid hra;have HRB:=hid hrb;have HLA:=hid hla;have HLB:=hid hlb;have H9:=hid h9;clear h1 h3 h4 h5 hra hrb hla hlb h9;replace HC:=hid (HC.out.below (qW5 _) hC);replace HQ3:=hid (HQ3.out.below (qW5 _) hC);have HRN:Hid (Rx w1 (MoR V' N)):=hid (Rx.below (HNX.out.more fun b hb=>by omega:Rx ws (MoR V' N)) hC);have HR3:Hid (Rx w1 (MoR V3 N3)):=hid (Rx.below (HX3.out.more fun b hb=>by omega:Rx ws (MoR V3 N3)) hC);replace HB:=hid (HB.out.trans (hC.mono HB.out.size));have hq7:q < w1.heap.size:=qXr hq6 hC.size;have hp7:p < w1.heap.size:=by omega
     clear hC HNX HX3 hq6 hp6 HE1 HE3;have hmm:=uG V3 N3 w1 HR3.out H5.out.1 H5.out.2;rw [HV3.out,H1.out] at hmm;have HMM:=hid hmm;clear hmm;have d0:=HQ3.out.cell 0 _ rfl;have d1:=HQ3.out.cell 1 _ rfl;have d2:=HQ3.out.cell 2 _ rfl;have d3:=HQ3.out.cell 3 _ rfl;have d4:=HQ3.out.cell 4 _ rfl;have d5:=HQ3.out.cell 5 _ rfl;have d6:=HQ3.out.cell 6 _ rfl;have d7:=HQ3.out.cell 7 _ rfl;have d8:=HQ3.out.cell 8 _ rfl;have d9:=HQ3.out.cell 9 _ rfl;have d10:=HQ3.out.cell 10 _ rfl;have d11:=HQ3.out.cell 11 _ rfl;have d12:=HQ3.out.cell 12 _ rfl;have d13:=HQ3.out.cell 13 _ rfl;go_wp2_with fail;clear d0 d1 d2 d3 d4 d5 d6 d7 d8 d9 d10 d11 d12 d13;refine HMM.out.mono ?_;rintro e w2 ⟨rfl,hb⟩;replace HC:=hid (HC.out.below (qW5 _) hb);replace HQ3:=hid (HQ3.out.below (qW5 _) hb);replace HRN:=hid (HRN.out.below hb);replace HR3:=hid (HR3.out.below hb);replace HRA:=hid (HRA.out.below hb);replace HRB:=hid (HRB.out.below hb);replace HB:=hid (HB.out.trans (hb.mono HB.out.size));replace hq7:=qXr hq7 hb.size;replace hp7:=qXr hp7 hb.size;clear hb HMM;have heq:=qEz V' V3 N N3 w2 HRN.out HR3.out;rw [HVN.out,HV3.out,H3.out] at heq;have HEQ:=hid heq;clear heq
     cases had with
     | false =>
       have hn:=H4.out rfl;have hlt:lb=la:=by rw [<- HLA.out,<- HLB.out,hn]
       have HN:=hid hn;clear hn;obtain rfl:=hlt;have hg:¬ ((lb:Int) < lb):=by omega
       have b0:=HC.out.cell 0 _ rfl;have d0:=HQ3.out.cell 0 _ rfl;have b1:=HC.out.cell 1 _ rfl;have d1:=HQ3.out.cell 1 _ rfl;have b2:=HC.out.cell 2 _ rfl;have d2:=HQ3.out.cell 2 _ rfl;have b3:=HC.out.cell 3 _ rfl;have d3:=HQ3.out.cell 3 _ rfl;have b4:=HC.out.cell 4 _ rfl;have d4:=HQ3.out.cell 4 _ rfl;have b5:=HC.out.cell 5 _ rfl;have d5:=HQ3.out.cell 5 _ rfl;have b6:=HC.out.cell 6 _ rfl;have d6:=HQ3.out.cell 6 _ rfl;have b7:=HC.out.cell 7 _ rfl;have d7:=HQ3.out.cell 7 _ rfl;have b8:=HC.out.cell 8 _ rfl;have d8:=HQ3.out.cell 8 _ rfl;have b9:=HC.out.cell 9 _ rfl;have d9:=HQ3.out.cell 9 _ rfl;have b10:=HC.out.cell 10 _ rfl;have d10:=HQ3.out.cell 10 _ rfl;have b11:=HC.out.cell 11 _ rfl;have d11:=HQ3.out.cell 11 _ rfl;have b12:=HC.out.cell 12 _ rfl;have d12:=HQ3.out.cell 12 _ rfl;have b13:=HC.out.cell 13 _ rfl;have d13:=HQ3.out.cell 13 _ rfl;have h8i:(8:Int) <= lb:=by omega
       go_wp2_with fail;clear b0 d0 b1 d1 b2 d2 b3 d3 b4 d4 b5 d5 b6 d6 b7 d7 b8 d8 b9 d9 b10 d10 b11 d11 b12 d12 b13 d13;refine HEQ.out.mono ?_;rintro e w3 ⟨rfl,hb⟩;have hc1:=xP (P:=Tryz.prog) (HRA.out.below hb) 37 9 5 Tryz.underlying37 Tryz.underlying5 Tryz.underlying9;have hc2:=xP (P:=Tryz.prog) (HRB.out.below hb) 37 9 5 Tryz.underlying37 Tryz.underlying5 Tryz.underlying9;rw [HN.out] at hc2;have HBF:=hid (HB.out.trans (hb.mono HB.out.size));clear hb HEQ;go_wp2_with fail;go_ret;exact ⟨rfl,HBF.out⟩
     | true =>
       have hlt:lb < la:=H9.out.2 rfl;have hg:((lb:Int) < la):=by omega
       have hs:((strOfNums (moE N)).toList == (strOfNums (moE N3)).toList)=false:=qVk (by rw [HLA.out,HLB.out];omega);have b0:=HC.out.cell 0 _ rfl;have d0:=HQ3.out.cell 0 _ rfl;have b1:=HC.out.cell 1 _ rfl;have d1:=HQ3.out.cell 1 _ rfl;have b2:=HC.out.cell 2 _ rfl;have d2:=HQ3.out.cell 2 _ rfl;have b3:=HC.out.cell 3 _ rfl;have d3:=HQ3.out.cell 3 _ rfl;have b4:=HC.out.cell 4 _ rfl;have d4:=HQ3.out.cell 4 _ rfl;have b5:=HC.out.cell 5 _ rfl;have d5:=HQ3.out.cell 5 _ rfl;have b6:=HC.out.cell 6 _ rfl;have d6:=HQ3.out.cell 6 _ rfl;have b7:=HC.out.cell 7 _ rfl;have d7:=HQ3.out.cell 7 _ rfl;have b8:=HC.out.cell 8 _ rfl;have d8:=HQ3.out.cell 8 _ rfl;have b9:=HC.out.cell 9 _ rfl;have d9:=HQ3.out.cell 9 _ rfl;have b10:=HC.out.cell 10 _ rfl;have d10:=HQ3.out.cell 10 _ rfl;have b11:=HC.out.cell 11 _ rfl;have d11:=HQ3.out.cell 11 _ rfl;have b12:=HC.out.cell 12 _ rfl;have d12:=HQ3.out.cell 12 _ rfl;have b13:=HC.out.cell 13 _ rfl;have d13:=HQ3.out.cell 13 _ rfl;have h8i:(8:Int) <= lb:=by omega
       go_wp2_with fail;clear b0 d0 b1 d1 b2 d2 b3 d3 b4 d4 b5 d5 b6 d6 b7 d7 b8 d8 b9 d9 b10 d10 b11 d11 b12 d12 b13 d13;refine HEQ.out.mono ?_;rintro e w3 ⟨rfl,hb⟩;have hc1:=xP (P:=Tryz.prog) (HRA.out.below hb) 37 9 5 Tryz.underlying37 Tryz.underlying5 Tryz.underlying9;have hc2:=xP (P:=Tryz.prog) (HRB.out.below hb) 37 9 5 Tryz.underlying37 Tryz.underlying5 Tryz.underlying9;have HBF:=hid (HB.out.trans (hb.mono HB.out.size));clear hb HEQ;go_wp2_with fail;go_ret;exact ⟨rfl,HBF.out⟩
end Go.Proofs.YtbkofpljchkkaaaGreat
