/- Words: RefLat. -/
import Derived.Deep.RegionLaw
import Derived.Test.YtbkofpljchkkaaaGreatRefLo
import Derived.Test.YtbkofpljchkkaaaGreatRefLim
import Derived.Test.YtbkofpljchkkaaaGreatRefByM
import Derived.Test.YtbkofpljchkkaaaGreatSpine
import Derived.Test.YtbkofpljchkkaaaGreatWB
import Derived.Test.YtbkofpljchkkaaaGreatKE
namespace Go.Proofs.YtbkofpljchkkaaaGreat
open Go.RowKit
theorem sec_of {α:Type} (id:Int) (f:α -> List Int) (X:List α) (n:Nat) (ys:List Int) (h:X.length=n) (hy:ys=X.flatMap f):(if n=0 then [] else id :: szE (numE n ++ ys))=secE id f X:=by
 subst h hy
 cases X with
 | nil=>rfl
 | cons a r=>rw [if_neg (by simp)];rfl
theorem sec_len {α:Type} (id:Int) (f:α -> List Int) (X:List α):(secE id f X).length <= 200000001 + (X.flatMap f).length:=by
 cases X with
 | nil=>simp [secE]
 | cons a r =>
   have h1:=num_len ((a :: r).length:Int)
   have h2:=num_len ((vecE f (a :: r)).length:Int)
   unfold numE at h1 h2
   simp only [secE,szE,List.length_cons,List.length_append]
   unfold vecE at h2 ⊢
   simp only [List.length_append,List.length_cons] at h1 h2 ⊢
   omega
theorem daE_max (x:MDa) (h:mayDa x=true):(daE x).length <= 100010000:=by
 unfold mayDa at h
 simp only [Bool.and_eq_true,decide_eq_true_eq] at h
 have h1:=cst_len 1 x.off
 have h2:=encU_len 9 ((x.bs.length:Nat):Int)
 unfold daE szE
 simp only [List.length_cons,List.length_append]
 omega
theorem coE_max (x:MCo) (h:mayCo x=true):(coE x).length <= 100010000:=by
 unfold mayCo mayBo at h
 simp only [Bool.and_eq_true,decide_eq_true_eq] at h
 have h1:=ruv_le x.ls h.1.1
 have h2:=encMs_len x.body (fun I hI=>List.all_eq_true.1 h.2.2 I hI)
 have h3:=fits_le h.2.1
 rw [opsI_len] at h3
 have h4:(encMs x.body).length <= 300 * 20001:=Nat.le_trans h2 (Nat.mul_le_mul_right _ h3)
 unfold coE szE
 have h5:=encU_len 9 (((vecE ruE (runs x.ls) ++ (encMs x.body ++ [11])).length:Nat):Int)
 rw [List.length_append] at h5 ⊢
 simp only [List.length_append,List.length_cons,List.length_nil] at h5 ⊢
 omega
set_option maxRecDepth 100000 in
set_option maxHeartbeats 8000000 in
theorem reflater_to (V:MoV) (M:MMo) (w:World) (h:Rx w (MoR V M)) (hc:mayCn M=true) (hp:mayParts M=true) :
    Calls Tryz.prog 56 #[.agg (V.cells M).toArray] w fun e w'=>∃ v,e=.returned v /\ Own 5 .u8 w.heap.size w' v (secE 9 elE M.elems ++ (secE 10 coE M.codes ++ secE 11 daE M.datas)) /\ Below w.heap.size w w':=by
 obtain ⟨⟨ot,nt,ct⟩,⟨oi,ni,ci⟩,⟨of,nf,cf⟩,⟨og,ng,cg⟩,⟨oe,ne,ce⟩,⟨ol,nl,cl⟩,⟨oc,nc,cc⟩,⟨od,nd,cd⟩⟩:=V
 obtain ⟨T,I,F,⟨th,tm,tx⟩,⟨mh,mm,mx⟩,G,E,L,C,D⟩:=M
 simp only [mayCn,mayParts,Bool.and_eq_true,decide_eq_true_eq] at hc hp
 obtain ⟨⟨⟨⟨⟨⟨⟨hcT,hcI⟩,hcF⟩,hcG⟩,hcE⟩,hcL⟩,hcC⟩,hcD⟩:=hc
 obtain ⟨⟨⟨⟨⟨⟨⟨⟨⟨hpT,hpI⟩,hpF⟩,hpt⟩,hpm⟩,hpG⟩,hpE⟩,hpL⟩,hpC⟩,hpD⟩:=hp
 simp only [MoV.cells]
 have HQl:Hid (Rx w fun w=>RdG 2 ElR w ol nl cl L):=hid (h.imp fun _ h=>h.l)
 have HLl:Hid (L.length=nl):=hid h.now.l.len
 have hnl:nl <= 32:=by rw [<- HLl.out];omega
 have HPl:=hid hpL
 have HQc:Hid (Rx w fun w=>RdG 2 CoR w oc nc cc C):=hid (h.imp fun _ h=>h.c)
 have HLc:Hid (C.length=nc):=hid h.now.c.len
 have hnc:nc <= 32:=by rw [<- HLc.out];omega
 have HPc:=hid hpC
 have HQd:Hid (Rx w fun w=>RdG 2 DaR w od nd cd D):=hid (h.imp fun _ h=>h.d)
 have HLd:Hid (D.length=nd):=hid h.now.d.len
 have hnd:nd <= 32:=by rw [<- HLd.out];omega
 have HPd:=hid hpD
 have hb0:Below w.heap.size w (w.alloc (.cells #[.slice ot nt ct,.slice oi ni ci,.slice of nf cf,.bool th,.int .i64 tm,.int .i64 tx,.bool mh,.int .i64 mm,.int .i64 mx,.slice og ng cg,.slice oe ne ce,.slice ol nl cl,.slice oc nc cc,.slice od nd cd] 33)):=Bl.alloc (Bl.refl w) _
 have hx0:=Cel.new w [.slice ot nt ct,.slice oi ni ci,.slice of nf cf,.bool th,.int .i64 tm,.int .i64 tx,.bool mh,.int .i64 mm,.int .i64 mx,.slice og ng cg,.slice oe ne ce,.slice ol nl cl,.slice oc nc cc,.slice od nd cd] 33
 have hz0:(w.alloc (.cells #[.slice ot nt ct,.slice oi ni ci,.slice of nf cf,.bool th,.int .i64 tm,.int .i64 tx,.bool mh,.int .i64 mm,.int .i64 mx,.slice og ng cg,.slice oe ne ce,.slice ol nl cl,.slice oc nc cc,.slice od nd cd] 33)).heap.size=w.heap.size + 1:=by simp
 obtain ⟨w0,hw0⟩:∃ w0,w.alloc (.cells #[.slice ot nt ct,.slice oi ni ci,.slice of nf cf,.bool th,.int .i64 tm,.int .i64 tx,.bool mh,.int .i64 mm,.int .i64 mx,.slice og ng cg,.slice oe ne ce,.slice ol nl cl,.slice oc nc cc,.slice od nd cd] 33)=w0:=⟨_,rfl⟩
 have hx1:Cel w0 w.heap.size [.slice ot nt ct,.slice oi ni ci,.slice of nf cf,.bool th,.int .i64 tm,.int .i64 tx,.bool mh,.int .i64 mm,.int .i64 mx,.slice og ng cg,.slice oe ne ce,.slice ol nl cl,.slice oc nc cc,.slice od nd cd]:=by rw [<- hw0];exact hx0
 rw [hw0] at hb0 hz0
 have HB0:=hid hb0
 have HX0:=hid hx1
 have HZ0:=hid hz0
 have HW0:=hid hw0
 clear h hcT hcI hcF hcG hcE hcL hcD hcC hpT hpI hpF hpG hpE hpL hpC hpD hb0 hx0 hx1 hz0 hw0 hpt hpm
 go_enter Tryz.func56,Tryz.ntmps56
 go_wp2_with fail
 rw [HW0.out]
 obtain ⟨ws,hws⟩:∃ ws,w0=ws:=⟨_,rfl⟩
 rw [hws]
 have HB:Hid (Below w0.heap.size w0 ws):=hid (by rw [<- hws];exact Below.refl _ _)
 clear hws
 obtain ⟨bs,hbs⟩:∃ bs:List Int,bs=[]:=⟨_,rfl⟩
 have HBO:Hid (Own 5 .u8 w0.heap.size ws (.slice none 0 0) bs):=hid (by rw [hbs];exact Own.nil _ _ _ _)
 have hbl:bs.length <= 10:=by rw [hbs];simp
 have HBS:=hid hbs
 clear hbs
 obtain ⟨z,hz⟩:∃ z,ws.heap.size=z:=⟨_,rfl⟩
 have hzz:w.heap.size + 1 <= z:=by have:=HB.out.size;rw [HZ0.out] at this;omega
 have HZ:=hid hz
 clear hz
 go_loopw [4,5] (fun v i wr=>∃ k:Nat,k <= nl /\ i=.int .i64 k /\ Own 5 .u8 z wr v ((L.take k).flatMap elE) /\ Below z ws wr) (fun _ i _=>nl - (intOf i).toNat)
 case atStart=>exact ⟨0,Nat.zero_le _,rfl,by simpa using Own.nil _ _ _ _,Below.refl _ _⟩
 case round =>
  obtain ⟨k,hkn,rfl,ho,hb⟩:=hrel
  have hsr:z <= wr.heap.size:=by have:=hb.size;rw [HZ.out] at this;exact this
  have HO:=hid ho
  have HBR:=hid hb
  clear ho hb
  have hel:((L.take k).flatMap elE).length <= 32 * 100010000:=by
   have h1:=flatMap_le elE (L.take k) 100010000 (fun x hx=>elE_max x (List.all_eq_true.1 HPl.out x (List.mem_of_mem_take hx)))
   have h2:(L.take k).length <= 32:=by rw [List.length_take,HLl.out];omega
   exact Nat.le_trans h1 (Nat.mul_le_mul_right 100010000 h2)
  obtain ⟨ys,hys⟩:∃ ys,ys=(L.take k).flatMap elE:=⟨_,rfl⟩
  rw [<- hys] at HO hel
  have HYS:=hid hys
  clear hys
  obtain ⟨yo,yc,rfl,hry⟩:=HO.out.rd
  obtain ⟨yl,hyl⟩:∃ yl,ys.length=yl:=⟨_,rfl⟩
  have HRY:=hid hry
  rw [hyl] at HO HRY hel ⊢
  have HYL:=hid hyl
  clear hry hyl
  have HX:=hid (HX0.out.keep (show w.heap.size < w0.heap.size by rw [HZ0.out];omega) (HB.out.trans (HBR.out.mono (show w0.heap.size <= z by rw [HZ0.out];omega))))
  have HBW:=hid (HB0.out.trans ((HB.out.trans (HBR.out.mono (show w0.heap.size <= z by rw [HZ0.out];omega))).mono (show w.heap.size <= w0.heap.size by rw [HZ0.out];omega)))
  have f0_0:=HX.out.cell 11 _ rfl
  have l0_0:w.heap.size < wr.heap.size:=by omega
  by_cases hk:k < nl
  ·
   obtain ⟨x,hx⟩:∃ x,L[k]?=some x:=⟨L[k]'(by rw [HLl.out];omega),List.getElem?_eq_getElem (by rw [HLl.out];omega)⟩
   have HMY:=hid (List.all_eq_true.1 HPl.out x (List.mem_of_getElem? hx))
   have HTF:=hid (take_flat elE L k x hx)
   obtain ⟨b,off,cs,rfl,hcl,hRR,hcw⟩:=RdG.elem HQl.out hx
   have hbw:b < w.heap.size:=World.block_lt_of_cell? w _ (hcw 0 cs[0] (List.getElem?_eq_getElem (by omega)))
   have hcc:=fun j v hj=>(HBW.out.cell (p:=⟨b,off + k * 2 + j,none⟩) hbw).trans (hcw j v hj)
   have hwz:w.heap.size <= z:=by omega
   have hbz:b < z:=by omega
   have hpz:w.heap.size < z:=by omega
   obtain ⟨y1,y2⟩:=x
   have hmy:=HMY.out
   unfold mayEl at hmy
   simp only [Bool.and_eq_true,decide_eq_true_eq] at hmy
   obtain ⟨⟨hmo,hml⟩,hma⟩:=hmy
   obtain ⟨a2,m2,k2,rfl,hr2⟩:=hRR.now
   have HR2:=hid hr2
   have f0_1:=hcc 0 _ rfl
   have f0_2:=hcc 1 _ rfl
   have HE0:=hid f0_1
   have HE1:=hid f0_2
   have l0_1:b < wr.heap.size:=by omega
   have hm2:m2 <= 50:=by rw [<- hr2.len];exact hml
   have HMO:=hid hmo
   have hnn:∀ x ∈ y2,0 <= x:=fun x hx=>by have:=List.all_eq_true.1 hma x hx;simp [mayNu] at this;exact this.1
   have HNN:=hid hnn
   have hyo:-9223372036854775808 <= y1 /\ y1 <= 9223372036854775807:=by unfold mayOff at hmo;simp at hmo;omega
   have HYO:=hid hyo
   have hl1:=cst_len 1 y1
   have hl2:=vecN_max y2 50 hml
   obtain ⟨us,hus⟩:∃ us,cstE 1 y1=us:=⟨_,rfl⟩
   obtain ⟨vs,hvs⟩:∃ vs,vecE numE y2=vs:=⟨_,rfl⟩
   rw [hus] at hl1
   rw [hvs] at hl2
   have HUS:=hid hus
   have HVS:=hid hvs
   clear hcc hcw hRR hx hcl hr2 hmo hma hml hnn hyo hus hvs
   have hz:=hsr
   go_wp2_with fail
   clear f0_0 f0_1 f0_2 l0_0 l0_1
   refine wp_region_spB (E:=5) (z:=z) (by kernel_rfl) 2 (.slice yo yl yc) (ys) (HO.out) ?hz  [.is (.slice yo yl yc),.rd [0],.own (ys ++ [0]),.is ?v5x3,.is (.slice (some ⟨b,off,none⟩) nl cl),.is ?v5x5,.is ?v5x6,.is ?v5x7,.is (.int .i64 y1),.is (.agg #[.int .i64 1,.int .i64 y1]),.rd us,.own (ys ++ [0] ++ us),.is ?v5x12,.is (.slice (some ⟨b,off,none⟩) nl cl),.is ?v5x14,.is ?v5x15,.is ?v5x16,.is (.slice a2 m2 k2),.rd vs,.own (ys ++ [0] ++ us ++ vs)] ((ys ++ [0] ++ us ++ vs)) [(2,ys),(11,(ys ++ [0])),(19,(ys ++ [0] ++ us))] [0,1,2,3,4,5,6,7,8,9,10,11,12,13,14,15,16,17,18,19,20] rfl (by kernel_rfl) rfl ?hop ?hok ?hla ?hfi ?hend
   case hop =>
    refine ⟨ruleB rfl ⟨⟨_,_,_,_,_,_⟩,_,Is (.slice yo yl yc),none,[],[(4,.slice yo yl yc)],rfl,rfl,rfl,rfl,rfl,⟨⟨by kernel_rfl,rfl⟩,trivial⟩,?_⟩,?_⟩
    ·intro a w1 hCC e4
     have hC:=hCC.1
     clear hCC
     refine Or.inl ⟨(.slice yo yl yc),?_,rfl⟩
     go_simp
     all_goals (first | rfl | (go_bits;rfl))
    refine ⟨ruleB rfl ⟨⟨_,_,_,_,_,_⟩,_,fcF 5 z (.rd [0]),none,[],[],rfl,rfl,rfl,rfl,rfl,trivial,?_⟩,?_⟩
    ·intro a w1 hCC
     have hC:=hCC.1
     clear hCC
     refine Or.inr (Or.inr ⟨.slice (some ⟨w1.heap.size,0,none⟩) 1 1,w1.alloc (.cells #[.int .u8 0] 5),?_,⟨_,_,rfl,Rd.built _ _ _ _ (by decide)⟩,Bl.alloc (Bl.refl _) _⟩)
     go_simp
    refine ⟨appRule0 (o:=⟨_,_,_,_,_,_⟩) (d:=18) (sa:=16) (sb:=17) (t:=37) (j0:=0) (j1:=1) (v0:=.slice yo yl yc) (xs:=ys) rfl rfl rfl rfl Tryz.underlying37 infoU8 (by kernel_rfl) (by kernel_rfl) (by kernel_rfl) (by kernel_rfl) rfl rfl rfl (.inl rfl) rfl (by (try simp only [List.length_append]);(try simp only [List.length_cons,List.length_nil]);rw [HYL.out];omega) (fun w h=>Nat.le_trans hz h.1.size) (fun w h=>h.2 rfl) (spT_app0 rfl),?_⟩
    refine ⟨ruleB rfl ⟨⟨_,_,_,_,_,_⟩,_,Is ?v5x3,none,[],[(1,.pointer (some ⟨w.heap.size,0,none⟩))],rfl,rfl,rfl,rfl,rfl,⟨⟨by kernel_rfl,rfl⟩,trivial⟩,?_⟩,?_⟩
    ·intro a w1 hCC e1
     have hC:=hCC.1
     clear hCC
     refine Or.inl ⟨_,?_,rfl⟩
     go_simp
     all_goals (first | (go_bits;rfl) | rfl | (rw [if_pos (by omega)]))
    refine ⟨ruleB rfl ⟨⟨_,_,_,_,_,_⟩,_,Is (.slice (some ⟨b,off,none⟩) nl cl),none,[(some 19,Is ?v5x3)],[],rfl,rfl,rfl,rfl,rfl,trivial,?_⟩,?_⟩
    ·intro a w1 hCC  (h3:a.tmps.getD 19 undef=_)
     have hC:=hCC.1
     clear hCC
     refine Or.inl ⟨.slice (some ⟨b,off,none⟩) nl cl,?_,rfl⟩
     have f0:=(hC.cell (p:=⟨w.heap.size,11,none⟩) hpz).trans (HX.out.cell 11 _ rfl)
     go_simp
    refine ⟨ruleB rfl ⟨⟨_,_,_,_,_,_⟩,_,Is ?v5x5,none,[],[(5,.int .i64 k)],rfl,rfl,rfl,rfl,rfl,⟨⟨by kernel_rfl,rfl⟩,trivial⟩,?_⟩,?_⟩
    ·intro a w1 hCC e5
     have hC:=hCC.1
     clear hCC
     refine Or.inl ⟨_,?_,rfl⟩
     go_simp
     all_goals (first | (go_bits;rfl) | rfl | (rw [if_pos (by omega)]))
    refine ⟨ruleB rfl ⟨⟨_,_,_,_,_,_⟩,_,Is ?v5x6,none,[(some 20,Is (.slice (some ⟨b,off,none⟩) nl cl)),(some 21,Is ?v5x5)],[],rfl,rfl,rfl,rfl,rfl,trivial,?_⟩,?_⟩
    ·intro a w1 hCC  (h4:a.tmps.getD 20 undef=_) (h5:a.tmps.getD 21 undef=_)
     have hC:=hCC.1
     clear hCC
     refine Or.inl ⟨_,?_,rfl⟩
     go_simp
     all_goals (first | (go_bits;rfl) | rfl | (rw [if_pos (by omega)]))
    refine ⟨ruleB rfl ⟨⟨_,_,_,_,_,_⟩,_,Is ?v5x7,none,[(some 22,Is ?v5x6)],[],rfl,rfl,rfl,rfl,rfl,trivial,?_⟩,?_⟩
    ·intro a w1 hCC  (h6:a.tmps.getD 22 undef=_)
     have hC:=hCC.1
     clear hCC
     refine Or.inl ⟨_,?_,rfl⟩
     go_simp
     all_goals (first | (go_bits;rfl) | rfl | (rw [if_pos (by omega)]))
    refine ⟨ruleB rfl ⟨⟨_,_,_,_,_,_⟩,_,Is (.int .i64 y1),none,[(some 23,Is ?v5x7)],[],rfl,rfl,rfl,rfl,rfl,trivial,?_⟩,?_⟩
    ·intro a w1 hCC  (h7:a.tmps.getD 23 undef=_)
     have hC:=hCC.1
     clear hCC
     refine Or.inl ⟨.int .i64 y1,?_,rfl⟩
     have f0:=(hC.cell (p:=⟨b,off + k * 2 + 0,none⟩) hbz).trans (HE0.out)
     try simp only [Nat.add_zero] at f0
     go_simp
    refine ⟨ruleB rfl ⟨⟨_,_,_,_,_,_⟩,_,Is (.agg #[.int .i64 1,.int .i64 y1]),none,[(some 24,Is (.int .i64 y1))],[],rfl,rfl,rfl,rfl,rfl,trivial,?_⟩,?_⟩
    ·intro a w1 hCC  (h8:a.tmps.getD 24 undef=_)
     have hC:=hCC.1
     clear hCC
     refine Or.inl ⟨.agg #[.int .i64 1,.int .i64 y1],?_,rfl⟩
     have h8z:a.tmps[24]?.getD undef=.int .i64 y1:=by simpa using h8
     go_simp
    refine ⟨ruleB rfl ⟨⟨_,_,_,_,_,_⟩,_,fcF 5 z (.rd us),none,[(some 25,Is (.agg #[.int .i64 1,.int .i64 y1])),(some 18,fun _ _=>True)],[],rfl,rfl,rfl,rfl,rfl,trivial,?_⟩,?_⟩
    ·intro a w1 hCC  (h9:a.tmps.getD 25 undef=_) _
     have hC:=hCC.1
     clear hCC
     refine Or.inr (Or.inl ⟨55,#[.agg #[.int .i64 1,.int .i64 y1]],?_,?_⟩)
     ·go_simp
     ·refine (refconstant_to 1 y1 w1 HMO.out HYO.out).mono ?_
      rintro e w2 ⟨vv,rfl,hown,hbel⟩
      rw [HUS.out] at hown
      obtain ⟨ao1,cap1,rfl,hrd⟩:=hown.rd
      exact ⟨_,rfl,⟨ao1,cap1,rfl,hrd⟩,hbel⟩
    refine ⟨appRule (o:=⟨_,_,_,_,_,_⟩) (d:=27) (sa:=18) (sb:=26) (t:=37) (j0:=2) (j1:=10) rfl rfl rfl rfl Tryz.underlying37 infoU8 (by kernel_rfl) (by kernel_rfl) (by kernel_rfl) (by kernel_rfl) rfl rfl rfl (.inl rfl) rfl (by (try simp only [List.length_append]);(try simp only [List.length_cons,List.length_nil]);rw [HYL.out];omega) (fun w h=>Nat.le_trans hz h.1.size) (spT_app rfl),?_⟩
    refine ⟨ruleB rfl ⟨⟨_,_,_,_,_,_⟩,_,Is ?v5x12,none,[],[(1,.pointer (some ⟨w.heap.size,0,none⟩))],rfl,rfl,rfl,rfl,rfl,⟨⟨by kernel_rfl,rfl⟩,trivial⟩,?_⟩,?_⟩
    ·intro a w1 hCC e1
     have hC:=hCC.1
     clear hCC
     refine Or.inl ⟨_,?_,rfl⟩
     go_simp
     all_goals (first | (go_bits;rfl) | rfl | (rw [if_pos (by omega)]))
    refine ⟨ruleB rfl ⟨⟨_,_,_,_,_,_⟩,_,Is (.slice (some ⟨b,off,none⟩) nl cl),none,[(some 28,Is ?v5x12)],[],rfl,rfl,rfl,rfl,rfl,trivial,?_⟩,?_⟩
    ·intro a w1 hCC  (h12:a.tmps.getD 28 undef=_)
     have hC:=hCC.1
     clear hCC
     refine Or.inl ⟨.slice (some ⟨b,off,none⟩) nl cl,?_,rfl⟩
     have f0:=(hC.cell (p:=⟨w.heap.size,11,none⟩) hpz).trans (HX.out.cell 11 _ rfl)
     go_simp
    refine ⟨ruleB rfl ⟨⟨_,_,_,_,_,_⟩,_,Is ?v5x14,none,[],[(5,.int .i64 k)],rfl,rfl,rfl,rfl,rfl,⟨⟨by kernel_rfl,rfl⟩,trivial⟩,?_⟩,?_⟩
    ·intro a w1 hCC e5
     have hC:=hCC.1
     clear hCC
     refine Or.inl ⟨_,?_,rfl⟩
     go_simp
     all_goals (first | (go_bits;rfl) | rfl | (rw [if_pos (by omega)]))
    refine ⟨ruleB rfl ⟨⟨_,_,_,_,_,_⟩,_,Is ?v5x15,none,[(some 29,Is (.slice (some ⟨b,off,none⟩) nl cl)),(some 30,Is ?v5x14)],[],rfl,rfl,rfl,rfl,rfl,trivial,?_⟩,?_⟩
    ·intro a w1 hCC  (h13:a.tmps.getD 29 undef=_) (h14:a.tmps.getD 30 undef=_)
     have hC:=hCC.1
     clear hCC
     refine Or.inl ⟨_,?_,rfl⟩
     go_simp
     all_goals (first | (go_bits;rfl) | rfl | (rw [if_pos (by omega)]))
    refine ⟨ruleB rfl ⟨⟨_,_,_,_,_,_⟩,_,Is ?v5x16,none,[(some 31,Is ?v5x15)],[],rfl,rfl,rfl,rfl,rfl,trivial,?_⟩,?_⟩
    ·intro a w1 hCC  (h15:a.tmps.getD 31 undef=_)
     have hC:=hCC.1
     clear hCC
     refine Or.inl ⟨_,?_,rfl⟩
     go_simp
     all_goals (first | (go_bits;rfl) | rfl | (rw [if_pos (by omega)]))
    refine ⟨ruleB rfl ⟨⟨_,_,_,_,_,_⟩,_,Is (.slice a2 m2 k2),none,[(some 32,Is ?v5x16)],[],rfl,rfl,rfl,rfl,rfl,trivial,?_⟩,?_⟩
    ·intro a w1 hCC  (h16:a.tmps.getD 32 undef=_)
     have hC:=hCC.1
     clear hCC
     refine Or.inl ⟨.slice a2 m2 k2,?_,rfl⟩
     have f0:=(hC.cell (p:=⟨b,off + k * 2 + 1,none⟩) hbz).trans (HE1.out)
     try simp only [Nat.add_zero] at f0
     go_simp
    refine ⟨ruleB rfl ⟨⟨_,_,_,_,_,_⟩,_,fcF 5 z (.rd vs),none,[(some 33,Is (.slice a2 m2 k2)),(some 27,fun _ _=>True)],[],rfl,rfl,rfl,rfl,rfl,trivial,?_⟩,?_⟩
    ·intro a w1 hCC  (h17:a.tmps.getD 33 undef=_) _
     have hC:=hCC.1
     clear hCC
     refine Or.inr (Or.inl ⟨126,#[.slice a2 m2 k2],?_,?_⟩)
     ·go_simp
     ·refine (refnumbers_to a2 m2 k2 y2 w1 (HR2.out.below (HBW.out.trans (hC.mono hwz))) (Nat.le_trans hm2 (by decide)) HNN.out).mono ?_
      rintro e w2 ⟨vv,rfl,hown,hbel⟩
      rw [HVS.out] at hown
      obtain ⟨ao1,cap1,rfl,hrd⟩:=hown.rd
      exact ⟨_,rfl,⟨ao1,cap1,rfl,hrd⟩,hbel⟩
    refine ⟨appRule (o:=⟨_,_,_,_,_,_⟩) (d:=35) (sa:=27) (sb:=34) (t:=37) (j0:=11) (j1:=18) rfl rfl rfl rfl Tryz.underlying37 infoU8 (by kernel_rfl) (by kernel_rfl) (by kernel_rfl) (by kernel_rfl) rfl rfl rfl (.inl rfl) rfl (by (try simp only [List.length_append]);(try simp only [List.length_cons,List.length_nil]);rw [HYL.out];omega) (fun w h=>Nat.le_trans hz h.1.size) (spT_app rfl),?_⟩
    refine ⟨ruleB rfl ⟨⟨_,_,_,_,_,_⟩,_,fcF 5 z (.own (ys ++ [0] ++ us ++ vs)),none,[(some 35,fcF 5 z (.own (ys ++ [0] ++ us ++ vs))),(some 35,fcF 5 z (.own (ys ++ [0] ++ us ++ vs))),(some 16,fun _ _=>True),(some 17,fun _ _=>True),(some 18,fun _ _=>True),(some 19,fun _ _=>True),(some 20,fun _ _=>True),(some 21,fun _ _=>True),(some 22,fun _ _=>True),(some 23,fun _ _=>True),(some 24,fun _ _=>True),(some 25,fun _ _=>True),(some 26,fun _ _=>True),(some 27,fun _ _=>True),(some 28,fun _ _=>True),(some 29,fun _ _=>True),(some 30,fun _ _=>True),(some 31,fun _ _=>True),(some 32,fun _ _=>True),(some 33,fun _ _=>True),(some 34,fun _ _=>True),(some 35,fcF 5 z (.own (ys ++ [0] ++ us ++ vs)))],[],rfl,rfl,rfl,rfl,rfl,trivial,?_⟩,?_⟩
    ·intro a w1 hCC  h19 h19 _ _ _ _ _ _ _ _ _ _ _ _ _ _ _ _ _ _ _ h19
     have hC:=hCC.1
     clear hCC
     refine Or.inl ⟨_,?_,h19⟩
     go_simp
     all_goals simp [slotV]
    exact trivial
   case hz=>exact hz
   case hok=>kernel_rfl
   case hla=>kernel_rfl
   case hfi=>kernel_rfl
   case hend =>
    intro w1 hC
    rintro _ rfl
    intro x1 _
    intro x2 _
    rintro _ rfl
    rintro _ rfl
    rintro _ rfl
    rintro _ rfl
    rintro _ rfl
    rintro _ rfl
    rintro _ rfl
    intro x10 _
    intro x11 _
    rintro _ rfl
    rintro _ rfl
    rintro _ rfl
    rintro _ rfl
    rintro _ rfl
    rintro _ rfl
    intro x18 _
    intro x19 _
    intro xf hf
    simp only [Ends,Act.put,List.setIfInBounds_toArray,List.set_cons_succ,List.set_cons_zero]
    have HO5:=hid hf
    have HB5:=hid hC
    have hfin:(L.take (k + 1)).flatMap elE=ys ++ [0] ++ us ++ vs:=by
     rw [HTF.out,<- HYS.out,elE,HUS.out,HVS.out];simp
    have HFIN:=hid hfin
    clear hfin
    go_wp2_with fail
    go_roundw
    case rel=>exact ⟨k + 1,by omega,by go_num,by rw [HFIN.out];exact HO5.out,HBR.out.trans HB5.out⟩
    case measure=>simp [intOf];omega
  ·
   have e0:k=nl:=by omega
   subst e0
   rw [List.take_of_length_le (by rw [HLl.out];exact Nat.le_refl _)] at HYS
   go_wp2_with fail
   have hss:L.length <= 32:=by rw [HLl.out];omega
   refine (refsection_to 9 (by decide) _ yo yl yc ys wr (by omega) HRY.out (by omega)).mono ?_
   rintro e w5 ⟨v5,rfl,h5,b5⟩
   rw [sec_of 9 elE L _ ys HLl.out HYS.out] at h5
   have hsl:=sec_len 9 elE L
   rw [<- HYS.out,HYL.out] at hsl
   obtain ⟨tl,htl⟩:∃ q,secE 9 elE L=q:=⟨_,rfl⟩
   rw [htl] at h5 hsl
   have HTl:=hid htl
   obtain ⟨so,sc,rfl,hrs⟩:=h5.rd
   have HRS:=hid hrs
   have h56:=b5.size
   have hz5:w0.heap.size <= w5.heap.size:=by have:=HB.out.size;have:=HZ.out;omega
   have HB5:=hid (HB.out.trans ((HBR.out.trans (b5.mono hsr)).mono (show w0.heap.size <= z by have:=HB.out.size;rw [HZ.out] at this;exact this)))
   have HBO5:=hid ((HBO.out.below (HBR.out.trans (b5.mono hsr)) (by rw [HZ.out];exact Nat.le_refl _)))
   clear h5 b5 htl hrs
   go_wp2_with (at_builtin;refine wpList_append_rd rfl (.tmp 36) (.tmp 41) 37 rfl 5 .u8 w0.heap.size 1 Tryz.underlying37 infoU8 _ bs rfl HBO5.out so _ sc tl rfl HRS.out (by omega) (by omega) hz5 ?_;intro v6 w6 o6 b6 _;have HO6:=hid o6;have HB6:=hid b6;clear o6 b6)
   have HBn:=hid (HB5.out.trans HB6.out)
   have hbn:(bs ++ tl).length <= 10 + 1 * 4000000000:=by rw [List.length_append];omega
   obtain ⟨bs2,hbs2⟩:∃ q,bs ++ tl=q:=⟨_,rfl⟩
   rw [hbs2] at HO6 hbn
   have HCl:=hid hbs2
   clear hbs2 HB5 HBO5 HB6 HRS h56 hz5 hsl hss f0_0 l0_0 HX HBW HRY HYL HO HYS hel HBR hsr HZ hzz HB HBO hkn hk hbl
   obtain ⟨wo,rfl⟩:∃ wo:World,wo=ws:=⟨_,rfl⟩
   obtain ⟨wo2,rfl⟩:∃ wo:World,wo=wr:=⟨_,rfl⟩
   obtain ⟨zo,rfl⟩:∃ q:Nat,q=z:=⟨_,rfl⟩
   obtain ⟨bsl,rfl⟩:∃ q:List Int,q=bs:=⟨_,rfl⟩
   obtain ⟨ws,rfl⟩:∃ q:World,q=w6:=⟨_,rfl⟩
   obtain ⟨bs,rfl⟩:∃ q:List Int,q=bs2:=⟨_,rfl⟩
   have HB:=HBn
   have HBO:=HO6
   have hbl:=hbn
   clear HBn HO6 hbn
   go_wp2_with fail
   obtain ⟨z,hz⟩:∃ z,ws.heap.size=z:=⟨_,rfl⟩
   have hzz:w.heap.size + 1 <= z:=by have:=HB.out.size;rw [HZ0.out] at this;omega
   have HZ:=hid hz
   clear hz
   go_loopw [4,6] (fun v i wr=>∃ k:Nat,k <= nc /\ i=.int .i64 k /\ Own 5 .u8 z wr v ((C.take k).flatMap coE) /\ Below z ws wr) (fun _ i _=>nc - (intOf i).toNat)
   case atStart=>exact ⟨0,Nat.zero_le _,rfl,by simpa using Own.nil _ _ _ _,Below.refl _ _⟩
   case round =>
    obtain ⟨k,hkn,rfl,ho,hb⟩:=hrel
    have hsr:z <= wr.heap.size:=by have:=hb.size;rw [HZ.out] at this;exact this
    have HO:=hid ho
    have HBR:=hid hb
    clear ho hb
    have hel:((C.take k).flatMap coE).length <= 32 * 100010000:=by
     have h1:=flatMap_le coE (C.take k) 100010000 (fun x hx=>coE_max x (List.all_eq_true.1 HPc.out x (List.mem_of_mem_take hx)))
     have h2:(C.take k).length <= 32:=by rw [List.length_take,HLc.out];omega
     exact Nat.le_trans h1 (Nat.mul_le_mul_right 100010000 h2)
    obtain ⟨ys,hys⟩:∃ ys,ys=(C.take k).flatMap coE:=⟨_,rfl⟩
    rw [<- hys] at HO hel
    have HYS:=hid hys
    clear hys
    obtain ⟨yo,yc,rfl,hry⟩:=HO.out.rd
    obtain ⟨yl,hyl⟩:∃ yl,ys.length=yl:=⟨_,rfl⟩
    have HRY:=hid hry
    rw [hyl] at HO HRY hel ⊢
    have HYL:=hid hyl
    clear hry hyl
    have HX:=hid (HX0.out.keep (show w.heap.size < w0.heap.size by rw [HZ0.out];omega) (HB.out.trans (HBR.out.mono (show w0.heap.size <= z by rw [HZ0.out];omega))))
    have HBW:=hid (HB0.out.trans ((HB.out.trans (HBR.out.mono (show w0.heap.size <= z by rw [HZ0.out];omega))).mono (show w.heap.size <= w0.heap.size by rw [HZ0.out];omega)))
    have f0_0:=HX.out.cell 12 _ rfl
    have l0_0:w.heap.size < wr.heap.size:=by omega
    by_cases hk:k < nc
    ·
     obtain ⟨x,hx⟩:∃ x,C[k]?=some x:=⟨C[k]'(by rw [HLc.out];omega),List.getElem?_eq_getElem (by rw [HLc.out];omega)⟩
     have HMY:=hid (List.all_eq_true.1 HPc.out x (List.mem_of_getElem? hx))
     have HTF:=hid (take_flat coE C k x hx)
     obtain ⟨b,off,cs,rfl,hcl,hRR,hcw⟩:=RdG.elem HQc.out hx
     have hbw:b < w.heap.size:=World.block_lt_of_cell? w _ (hcw 0 cs[0] (List.getElem?_eq_getElem (by omega)))
     have hcc:=fun j v hj=>(HBW.out.cell (p:=⟨b,off + k * 2 + j,none⟩) hbw).trans (hcw j v hj)
     have hwz:w.heap.size <= z:=by omega
     have hbz:b < z:=by omega
     have hpz:w.heap.size < z:=by omega
     obtain ⟨y1,y2⟩:=x
     have hcm:=coE_max _ HMY.out
     have hmy:=HMY.out
     unfold mayCo mayBo at hmy
     simp only [Bool.and_eq_true,decide_eq_true_eq] at hmy
     obtain ⟨⟨hml,hmk⟩,hmf,hmb⟩:=hmy
     obtain ⟨a2,m2,k2,a3,m3,k3,rfl,hr2,hr3⟩:=hRR.now
     have HR2:=hid hr2
     have HR3:Hid (Rx w fun w=>RdG 4 InR w a3 m3 k3 y2):=hid (hRR.imp fun w h=>by obtain ⟨_,_,_,_,_,_,e,_,h2⟩:=h;cases e;exact h2)
     have f0_1:=hcc 0 _ rfl
     have f0_2:=hcc 1 _ rfl
     have HE0:=hid f0_1
     have HE1:=hid f0_2
     have l0_1:b < wr.heap.size:=by omega
     have hm2:m2 <= 32:=by rw [<- hr2.len];exact hml
     have hm3:m3 <= 300:=by rw [<- hr3.len];have:=fits_le hmf;rwa [opsI_len] at this
     have HMK:=hid hmk
     have HMB:Hid (∀ I ∈ y2,mayII I=true):=hid (fun I hI=>List.all_eq_true.1 hmb I hI)
     obtain ⟨us,hus⟩:∃ us,vecE ruE (runs y1)=us:=⟨_,rfl⟩
     obtain ⟨vs,hvs⟩:∃ vs,encMs y2 ++ [11]=vs:=⟨_,rfl⟩
     have hcE:coE ⟨y1,y2⟩=szE (us ++ vs):=by rw [<- hus,<- hvs];rfl
     have HCM:=hid hcm
     rw [hcE] at hcm
     have huv:(us ++ vs).length <= 100010000:=by unfold szE at hcm;rw [List.length_append] at hcm;omega
     have huv2:us.length + vs.length <= 100010000:=by rw [List.length_append] at huv;exact huv
     have HCE:=hid hcE
     have HUS:=hid hus
     have HVS:=hid hvs
     clear hcc hcw hRR hx hcl hr2 hr3 hmk hml hmf hmb hcE hcm hus hvs
     obtain ⟨zr,hzr⟩:∃ q,wr.heap.size=q:=⟨_,rfl⟩
     have hwz:w.heap.size <= zr:=by omega
     have hbz:b < zr:=by omega
     have hpz:w.heap.size < zr:=by omega
     have hzzr:z <= zr:=by omega
     have hz:zr <= wr.heap.size:=by omega
     have HZR:=hid hzr
     clear hzr
     go_wp2_with fail
     clear f0_0 f0_1 f0_2 l0_0 l0_1
     refine wp_region_spB (E:=5) (z:=zr) (by kernel_rfl) 0 (.slice none 0 0) ([]) (Own.nil _ _ _ _) ?hz  [.is ?v11x0,.is (.slice (some ⟨b,off,none⟩) nc cc),.is ?v11x2,.is ?v11x3,.is ?v11x4,.is (.slice a2 m2 k2),.own us,.is ?v11x7,.is (.slice (some ⟨b,off,none⟩) nc cc),.is ?v11x9,.is ?v11x10,.is ?v11x11,.is (.slice a3 m3 k3),.rd vs,.own (us ++ vs)] ((us ++ vs)) [(14,us)] [0,1,2,3,4,5,6,7,8,9,10,11,12,13,14,15] rfl (by kernel_rfl) rfl ?hop ?hok ?hla ?hfi ?hend
     case hop =>
      refine ⟨ruleB rfl ⟨⟨_,_,_,_,_,_⟩,_,Is ?v11x0,none,[],[(1,.pointer (some ⟨w.heap.size,0,none⟩))],rfl,rfl,rfl,rfl,rfl,⟨⟨by kernel_rfl,rfl⟩,trivial⟩,?_⟩,?_⟩
      ·intro a w1 hCC e1
       have hC:=hCC.1
       clear hCC
       refine Or.inl ⟨_,?_,rfl⟩
       go_simp
       all_goals (first | (go_bits;rfl) | rfl | (rw [if_pos (by omega)]))
      refine ⟨ruleB rfl ⟨⟨_,_,_,_,_,_⟩,_,Is (.slice (some ⟨b,off,none⟩) nc cc),none,[(some 50,Is ?v11x0)],[],rfl,rfl,rfl,rfl,rfl,trivial,?_⟩,?_⟩
      ·intro a w1 hCC  (h0:a.tmps.getD 50 undef=_)
       have hC:=hCC.1
       clear hCC
       refine Or.inl ⟨.slice (some ⟨b,off,none⟩) nc cc,?_,rfl⟩
       have f0:=(hC.cell (p:=⟨w.heap.size,12,none⟩) hpz).trans (HX.out.cell 12 _ rfl)
       go_simp
      refine ⟨ruleB rfl ⟨⟨_,_,_,_,_,_⟩,_,Is ?v11x2,none,[],[(6,.int .i64 k)],rfl,rfl,rfl,rfl,rfl,⟨⟨by kernel_rfl,rfl⟩,trivial⟩,?_⟩,?_⟩
      ·intro a w1 hCC e6
       have hC:=hCC.1
       clear hCC
       refine Or.inl ⟨_,?_,rfl⟩
       go_simp
       all_goals (first | (go_bits;rfl) | rfl | (rw [if_pos (by omega)]))
      refine ⟨ruleB rfl ⟨⟨_,_,_,_,_,_⟩,_,Is ?v11x3,none,[(some 51,Is (.slice (some ⟨b,off,none⟩) nc cc)),(some 52,Is ?v11x2)],[],rfl,rfl,rfl,rfl,rfl,trivial,?_⟩,?_⟩
      ·intro a w1 hCC  (h1:a.tmps.getD 51 undef=_) (h2:a.tmps.getD 52 undef=_)
       have hC:=hCC.1
       clear hCC
       refine Or.inl ⟨_,?_,rfl⟩
       go_simp
       all_goals (first | (go_bits;rfl) | rfl | (rw [if_pos (by omega)]))
      refine ⟨ruleB rfl ⟨⟨_,_,_,_,_,_⟩,_,Is ?v11x4,none,[(some 53,Is ?v11x3)],[],rfl,rfl,rfl,rfl,rfl,trivial,?_⟩,?_⟩
      ·intro a w1 hCC  (h3:a.tmps.getD 53 undef=_)
       have hC:=hCC.1
       clear hCC
       refine Or.inl ⟨_,?_,rfl⟩
       go_simp
       all_goals (first | (go_bits;rfl) | rfl | (rw [if_pos (by omega)]))
      refine ⟨ruleB rfl ⟨⟨_,_,_,_,_,_⟩,_,Is (.slice a2 m2 k2),none,[(some 54,Is ?v11x4)],[],rfl,rfl,rfl,rfl,rfl,trivial,?_⟩,?_⟩
      ·intro a w1 hCC  (h4:a.tmps.getD 54 undef=_)
       have hC:=hCC.1
       clear hCC
       refine Or.inl ⟨.slice a2 m2 k2,?_,rfl⟩
       have f0:=(hC.cell (p:=⟨b,off + k * 2 + 0,none⟩) hbz).trans (HE0.out)
       try simp only [Nat.add_zero] at f0
       go_simp
      refine ⟨ruleB rfl ⟨⟨_,_,_,_,_,_⟩,_,fcF 5 zr (.own us),none,[(some 55,Is (.slice a2 m2 k2))],[],rfl,rfl,rfl,rfl,rfl,trivial,?_⟩,?_⟩
      ·intro a w1 hCC  (h5:a.tmps.getD 55 undef=_)
       have hC:=hCC.1
       clear hCC
       refine Or.inr (Or.inl ⟨127,#[.slice a2 m2 k2],?_,?_⟩)
       ·go_simp
       ·refine (reflocals_to a2 m2 k2 y1 w1 (HR2.out.below (HBW.out.trans (hC.mono hwz))) (Nat.le_trans hm2 (by decide)) HMK.out).mono ?_
        rintro e w2 ⟨vv,rfl,hown,hbel⟩
        rw [HUS.out] at hown
        exact ⟨_,rfl,hown.lift (Nat.le_trans hz hC.size),hbel⟩
      refine ⟨ruleB rfl ⟨⟨_,_,_,_,_,_⟩,_,Is ?v11x7,none,[],[(1,.pointer (some ⟨w.heap.size,0,none⟩))],rfl,rfl,rfl,rfl,rfl,⟨⟨by kernel_rfl,rfl⟩,trivial⟩,?_⟩,?_⟩
      ·intro a w1 hCC e1
       have hC:=hCC.1
       clear hCC
       refine Or.inl ⟨_,?_,rfl⟩
       go_simp
       all_goals (first | (go_bits;rfl) | rfl | (rw [if_pos (by omega)]))
      refine ⟨ruleB rfl ⟨⟨_,_,_,_,_,_⟩,_,Is (.slice (some ⟨b,off,none⟩) nc cc),none,[(some 57,Is ?v11x7)],[],rfl,rfl,rfl,rfl,rfl,trivial,?_⟩,?_⟩
      ·intro a w1 hCC  (h7:a.tmps.getD 57 undef=_)
       have hC:=hCC.1
       clear hCC
       refine Or.inl ⟨.slice (some ⟨b,off,none⟩) nc cc,?_,rfl⟩
       have f0:=(hC.cell (p:=⟨w.heap.size,12,none⟩) hpz).trans (HX.out.cell 12 _ rfl)
       go_simp
      refine ⟨ruleB rfl ⟨⟨_,_,_,_,_,_⟩,_,Is ?v11x9,none,[],[(6,.int .i64 k)],rfl,rfl,rfl,rfl,rfl,⟨⟨by kernel_rfl,rfl⟩,trivial⟩,?_⟩,?_⟩
      ·intro a w1 hCC e6
       have hC:=hCC.1
       clear hCC
       refine Or.inl ⟨_,?_,rfl⟩
       go_simp
       all_goals (first | (go_bits;rfl) | rfl | (rw [if_pos (by omega)]))
      refine ⟨ruleB rfl ⟨⟨_,_,_,_,_,_⟩,_,Is ?v11x10,none,[(some 58,Is (.slice (some ⟨b,off,none⟩) nc cc)),(some 59,Is ?v11x9)],[],rfl,rfl,rfl,rfl,rfl,trivial,?_⟩,?_⟩
      ·intro a w1 hCC  (h8:a.tmps.getD 58 undef=_) (h9:a.tmps.getD 59 undef=_)
       have hC:=hCC.1
       clear hCC
       refine Or.inl ⟨_,?_,rfl⟩
       go_simp
       all_goals (first | (go_bits;rfl) | rfl | (rw [if_pos (by omega)]))
      refine ⟨ruleB rfl ⟨⟨_,_,_,_,_,_⟩,_,Is ?v11x11,none,[(some 60,Is ?v11x10)],[],rfl,rfl,rfl,rfl,rfl,trivial,?_⟩,?_⟩
      ·intro a w1 hCC  (h10:a.tmps.getD 60 undef=_)
       have hC:=hCC.1
       clear hCC
       refine Or.inl ⟨_,?_,rfl⟩
       go_simp
       all_goals (first | (go_bits;rfl) | rfl | (rw [if_pos (by omega)]))
      refine ⟨ruleB rfl ⟨⟨_,_,_,_,_,_⟩,_,Is (.slice a3 m3 k3),none,[(some 61,Is ?v11x11)],[],rfl,rfl,rfl,rfl,rfl,trivial,?_⟩,?_⟩
      ·intro a w1 hCC  (h11:a.tmps.getD 61 undef=_)
       have hC:=hCC.1
       clear hCC
       refine Or.inl ⟨.slice a3 m3 k3,?_,rfl⟩
       have f0:=(hC.cell (p:=⟨b,off + k * 2 + 1,none⟩) hbz).trans (HE1.out)
       try simp only [Nat.add_zero] at f0
       go_simp
      refine ⟨ruleB rfl ⟨⟨_,_,_,_,_,_⟩,_,fcF 5 zr (.rd vs),none,[(some 62,Is (.slice a3 m3 k3)),(some 56,fun _ _=>True)],[],rfl,rfl,rfl,rfl,rfl,trivial,?_⟩,?_⟩
      ·intro a w1 hCC  (h12:a.tmps.getD 62 undef=_) _
       have hC:=hCC.1
       clear hCC
       refine Or.inr (Or.inl ⟨128,#[.slice a3 m3 k3],?_,?_⟩)
       ·go_simp
       ·refine (refPutBody_to (fun _=>True) a3 m3 k3 y2 w1 ((HR3.out.below (HBW.out.trans (hC.mono hwz))).now.insP) (Nat.le_trans hm3 (by decide)) HMB.out).mono ?_
        rintro e w2 ⟨vv,rfl,hown,hbel⟩
        rw [HVS.out] at hown
        obtain ⟨ao1,cap1,rfl,hrd⟩:=hown.rd
        exact ⟨_,rfl,⟨ao1,cap1,rfl,hrd⟩,hbel⟩
      refine ⟨appRule (o:=⟨_,_,_,_,_,_⟩) (d:=64) (sa:=56) (sb:=63) (t:=37) (j0:=6) (j1:=13) rfl rfl rfl rfl Tryz.underlying37 infoU8 (by kernel_rfl) (by kernel_rfl) (by kernel_rfl) (by kernel_rfl) rfl rfl rfl (.inl rfl) rfl (by omega) (fun w h=>Nat.le_trans hz h.1.size) (spT_app rfl),?_⟩
      refine ⟨ruleB rfl ⟨⟨_,_,_,_,_,_⟩,_,fcF 5 zr (.own (us ++ vs)),none,[(some 64,fcF 5 zr (.own (us ++ vs))),(some 64,fcF 5 zr (.own (us ++ vs))),(some 50,fun _ _=>True),(some 51,fun _ _=>True),(some 52,fun _ _=>True),(some 53,fun _ _=>True),(some 54,fun _ _=>True),(some 55,fun _ _=>True),(some 56,fun _ _=>True),(some 57,fun _ _=>True),(some 58,fun _ _=>True),(some 59,fun _ _=>True),(some 60,fun _ _=>True),(some 61,fun _ _=>True),(some 62,fun _ _=>True),(some 63,fun _ _=>True),(some 64,fcF 5 zr (.own (us ++ vs)))],[],rfl,rfl,rfl,rfl,rfl,trivial,?_⟩,?_⟩
      ·intro a w1 hCC  h14 h14 _ _ _ _ _ _ _ _ _ _ _ _ _ _ h14
       have hC:=hCC.1
       clear hCC
       refine Or.inl ⟨_,?_,h14⟩
       go_simp
       all_goals simp [slotV]
      exact trivial
     case hz=>exact hz
     case hok=>kernel_rfl
     case hla=>kernel_rfl
     case hfi=>kernel_rfl
     case hend =>
      intro w1 hC
      rintro _ rfl
      rintro _ rfl
      rintro _ rfl
      rintro _ rfl
      rintro _ rfl
      rintro _ rfl
      intro x6 _
      rintro _ rfl
      rintro _ rfl
      rintro _ rfl
      rintro _ rfl
      rintro _ rfl
      rintro _ rfl
      intro x13 _
      intro x14 _
      intro xf hf
      simp only [Ends,Act.put,List.setIfInBounds_toArray,List.set_cons_succ,List.set_cons_zero]
      have HO5:=hid hf
      have HB5:=hid hC
      obtain ⟨co,cc2,rfl,hrc⟩:=hf.rd
      obtain ⟨cs2,hcs2⟩:∃ q,us ++ vs=q:=⟨_,rfl⟩
      rw [hcs2] at hrc huv ⊢
      have HCS:=hid hcs2
      have HRC:=hid hrc
      clear hcs2 hrc HO5 hf
      obtain ⟨cl2,hcl2⟩:∃ q,cs2.length=q:=⟨_,rfl⟩
      rw [hcl2] at HRC huv ⊢
      have HCL:=hid hcl2
      clear hcl2
      go_wp2_with fail
      have hsz1:=HB5.out.size
      refine (refvec_to cl2 co cl2 cc2 cs2 w1 (by omega) (by omega) HRC.out (by omega)).mono ?_
      rintro e w2 ⟨v,rfl,hv,hb⟩
      have hcs3:numE cl2 ++ cs2=coE ⟨y1,y2⟩:=by rw [HCE.out,HCS.out,<- HCL.out];rfl
      have hcm:=HCM.out
      rw [hcs3] at hv
      obtain ⟨es,hes⟩:∃ q,coE ⟨y1,y2⟩=q:=⟨_,rfl⟩
      rw [hes] at hv hcm
      obtain ⟨zo2,zc,rfl,hrz⟩:=hv.rd
      have hsz2:=hb.size
      have HBZ:=hid (HB5.out.trans (hb.mono (show zr <= w1.heap.size by omega)))
      have HO2:=hid (HO.out.below HBZ.out (by rw [HZR.out];exact Nat.le_refl _))
      have HRZ:=hid hrz
      have hfin:(C.take (k + 1)).flatMap coE=ys ++ es:=by rw [HTF.out,<- HYS.out,hes]
      have HFIN:=hid hfin
      have hzw:z <= w2.heap.size:=by omega
      clear hv hb hcs3 hes hrz hfin
      go_wp2_with (at_builtin;refine wpList_append_rd rfl (.tmp 65) (.tmp 69) 37 rfl 5 .u8 z 1 Tryz.underlying37 infoU8 _ ys rfl HO2.out zo2 _ zc es rfl HRZ.out (by rw [HYL.out];omega) (by rw [HYL.out];omega) hzw ?_;intro v3 w3 o3 b3 _;have HO3:=hid o3;have HB3:=hid b3;clear o3 b3)
      go_roundw
      case rel=>exact ⟨k + 1,by omega,by go_num,by rw [HFIN.out];exact HO3.out,HBR.out.trans ((HBZ.out.mono hzzr).trans HB3.out)⟩
      case measure=>simp [intOf];omega
    ·
     have e0:k=nc:=by omega
     subst e0
     rw [List.take_of_length_le (by rw [HLc.out];exact Nat.le_refl _)] at HYS
     go_wp2_with fail
     have hss:C.length <= 32:=by rw [HLc.out];omega
     refine (refsection_to 10 (by decide) _ yo yl yc ys wr (by omega) HRY.out (by omega)).mono ?_
     rintro e w5 ⟨v5,rfl,h5,b5⟩
     rw [sec_of 10 coE C _ ys HLc.out HYS.out] at h5
     have hsl:=sec_len 10 coE C
     rw [<- HYS.out,HYL.out] at hsl
     obtain ⟨tc,htc⟩:∃ q,secE 10 coE C=q:=⟨_,rfl⟩
     rw [htc] at h5 hsl
     have HTc:=hid htc
     obtain ⟨so,sc,rfl,hrs⟩:=h5.rd
     have HRS:=hid hrs
     have h56:=b5.size
     have hz5:w0.heap.size <= w5.heap.size:=by have:=HB.out.size;have:=HZ.out;omega
     have HB5:=hid (HB.out.trans ((HBR.out.trans (b5.mono hsr)).mono (show w0.heap.size <= z by have:=HB.out.size;rw [HZ.out] at this;exact this)))
     have HBO5:=hid ((HBO.out.below (HBR.out.trans (b5.mono hsr)) (by rw [HZ.out];exact Nat.le_refl _)))
     clear h5 b5 htc hrs
     go_wp2_with (at_builtin;refine wpList_append_rd rfl (.tmp 71) (.tmp 76) 37 rfl 5 .u8 w0.heap.size 1 Tryz.underlying37 infoU8 _ bs rfl HBO5.out so _ sc tc rfl HRS.out (by omega) (by omega) hz5 ?_;intro v6 w6 o6 b6 _;have HO6:=hid o6;have HB6:=hid b6;clear o6 b6)
     have HBn:=hid (HB5.out.trans HB6.out)
     have hbn:(bs ++ tc).length <= 10 + 2 * 4000000000:=by rw [List.length_append];omega
     obtain ⟨bs2,hbs2⟩:∃ q,bs ++ tc=q:=⟨_,rfl⟩
     rw [hbs2] at HO6 hbn
     have HCc:=hid hbs2
     clear hbs2 HB5 HBO5 HB6 HRS h56 hz5 hsl hss f0_0 l0_0 HX HBW HRY HYL HO HYS hel HBR hsr HZ hzz HB HBO hkn hk hbl
     obtain ⟨wo,rfl⟩:∃ wo:World,wo=ws:=⟨_,rfl⟩
     obtain ⟨wo2,rfl⟩:∃ wo:World,wo=wr:=⟨_,rfl⟩
     obtain ⟨zo,rfl⟩:∃ q:Nat,q=z:=⟨_,rfl⟩
     obtain ⟨bsc,rfl⟩:∃ q:List Int,q=bs:=⟨_,rfl⟩
     obtain ⟨ws,rfl⟩:∃ q:World,q=w6:=⟨_,rfl⟩
     obtain ⟨bs,rfl⟩:∃ q:List Int,q=bs2:=⟨_,rfl⟩
     have HB:=HBn
     have HBO:=HO6
     have hbl:=hbn
     clear HBn HO6 hbn
     go_wp2_with fail
     obtain ⟨z,hz⟩:∃ z,ws.heap.size=z:=⟨_,rfl⟩
     have hzz:w.heap.size + 1 <= z:=by have:=HB.out.size;rw [HZ0.out] at this;omega
     have HZ:=hid hz
     clear hz
     go_loopw [4,8] (fun v i wr=>∃ k:Nat,k <= nd /\ i=.int .i64 k /\ Own 5 .u8 z wr v ((D.take k).flatMap daE) /\ Below z ws wr) (fun _ i _=>nd - (intOf i).toNat)
     case atStart=>exact ⟨0,Nat.zero_le _,rfl,by simpa using Own.nil _ _ _ _,Below.refl _ _⟩
     case round =>
      obtain ⟨k,hkn,rfl,ho,hb⟩:=hrel
      have hsr:z <= wr.heap.size:=by have:=hb.size;rw [HZ.out] at this;exact this
      have HO:=hid ho
      have HBR:=hid hb
      clear ho hb
      have hel:((D.take k).flatMap daE).length <= 32 * 100010000:=by
       have h1:=flatMap_le daE (D.take k) 100010000 (fun x hx=>daE_max x (List.all_eq_true.1 HPd.out x (List.mem_of_mem_take hx)))
       have h2:(D.take k).length <= 32:=by rw [List.length_take,HLd.out];omega
       exact Nat.le_trans h1 (Nat.mul_le_mul_right 100010000 h2)
      obtain ⟨ys,hys⟩:∃ ys,ys=(D.take k).flatMap daE:=⟨_,rfl⟩
      rw [<- hys] at HO hel
      have HYS:=hid hys
      clear hys
      obtain ⟨yo,yc,rfl,hry⟩:=HO.out.rd
      obtain ⟨yl,hyl⟩:∃ yl,ys.length=yl:=⟨_,rfl⟩
      have HRY:=hid hry
      rw [hyl] at HO HRY hel ⊢
      have HYL:=hid hyl
      clear hry hyl
      have HX:=hid (HX0.out.keep (show w.heap.size < w0.heap.size by rw [HZ0.out];omega) (HB.out.trans (HBR.out.mono (show w0.heap.size <= z by rw [HZ0.out];omega))))
      have HBW:=hid (HB0.out.trans ((HB.out.trans (HBR.out.mono (show w0.heap.size <= z by rw [HZ0.out];omega))).mono (show w.heap.size <= w0.heap.size by rw [HZ0.out];omega)))
      have f0_0:=HX.out.cell 13 _ rfl
      have l0_0:w.heap.size < wr.heap.size:=by omega
      by_cases hk:k < nd
      ·
       obtain ⟨x,hx⟩:∃ x,D[k]?=some x:=⟨D[k]'(by rw [HLd.out];omega),List.getElem?_eq_getElem (by rw [HLd.out];omega)⟩
       have HMY:=hid (List.all_eq_true.1 HPd.out x (List.mem_of_getElem? hx))
       have HTF:=hid (take_flat daE D k x hx)
       obtain ⟨b,off,cs,rfl,hcl,hRR,hcw⟩:=RdG.elem HQd.out hx
       have hbw:b < w.heap.size:=World.block_lt_of_cell? w _ (hcw 0 cs[0] (List.getElem?_eq_getElem (by omega)))
       have hcc:=fun j v hj=>(HBW.out.cell (p:=⟨b,off + k * 2 + j,none⟩) hbw).trans (hcw j v hj)
       have hwz:w.heap.size <= z:=by omega
       have hbz:b < z:=by omega
       have hpz:w.heap.size < z:=by omega
       obtain ⟨y1,y2⟩:=x
       have hmy:=HMY.out
       unfold mayDa at hmy
       simp only [Bool.and_eq_true,decide_eq_true_eq] at hmy
       obtain ⟨hmo,hml⟩:=hmy
       obtain ⟨a2,m2,k2,rfl,hr2⟩:=hRR.now
       have HR2:=hid hr2
       have f0_1:=hcc 0 _ rfl
       have f0_2:=hcc 1 _ rfl
       have HE0:=hid f0_1
       have HE1:=hid f0_2
       have l0_1:b < wr.heap.size:=by omega
       have hm2:m2 <= 1000:=by rw [<- hr2.len];exact hml
       have HLM:Hid (y2.length=m2):=hid hr2.len
       have HMO:=hid hmo
       have hyo:-9223372036854775808 <= y1 /\ y1 <= 9223372036854775807:=by unfold mayOff at hmo;simp at hmo;omega
       have HYO:=hid hyo
       have hl1:=cst_len 1 y1
       have hl2:(numE (m2:Int) ++ y2).length <= 100001000:=by have:=num_len (m2:Int);rw [List.length_append];omega
       obtain ⟨us,hus⟩:∃ us,cstE 1 y1=us:=⟨_,rfl⟩
       obtain ⟨vs,hvs⟩:∃ vs,numE (m2:Int) ++ y2=vs:=⟨_,rfl⟩
       rw [hus] at hl1
       rw [hvs] at hl2
       have HUS:=hid hus
       have HVS:=hid hvs
       clear hcc hcw hRR hx hcl hr2 hmo hml hyo hus hvs
       have hz:=hsr
       go_wp2_with fail
       clear f0_0 f0_1 f0_2 l0_0 l0_1
       refine wp_region_spB (E:=5) (z:=z) (by kernel_rfl) 2 (.slice yo yl yc) (ys) (HO.out) ?hz  (.is (.slice yo yl yc) :: .rd [0] :: .own (ys ++ [0]) :: .is ?v18x3 :: .is (.slice (some ⟨b,off,none⟩) nd cd) :: .is ?v18x5 :: .is ?v18x6 :: .is ?v18x7 :: .is (.int .i64 y1) :: .is (.agg #[.int .i64 1,.int .i64 y1]) :: .rd us :: .own (ys ++ [0] ++ us) :: .is ?v18x12 :: .is (.slice (some ⟨b,off,none⟩) nd cd) :: .is ?v18x14 :: .is ?v18x15 :: .is ?v18x16 :: .is (.slice a2 m2 k2) :: .is (.int .i64 m2) :: .is ?v18x19 :: .is (.slice (some ⟨b,off,none⟩) nd cd) :: .is ?v18x21 :: .is ?v18x22 :: .is ?v18x23 :: .is (.slice a2 m2 k2) :: .rd vs :: .own (ys ++ [0] ++ us ++ vs) :: []) ((ys ++ [0] ++ us ++ vs)) [(2,ys),(11,(ys ++ [0])),(26,(ys ++ [0] ++ us))] (0 :: 1 :: 2 :: 3 :: 4 :: 5 :: 6 :: 7 :: 8 :: 9 :: 10 :: 11 :: 12 :: 13 :: 14 :: 15 :: 16 :: 17 :: 18 :: 19 :: 20 :: 21 :: 22 :: 23 :: 24 :: 25 :: 26 :: 27 :: []) rfl (by kernel_rfl) rfl ?hop ?hok ?hla ?hfi ?hend
       case hop =>
        refine ⟨ruleB rfl ⟨⟨_,_,_,_,_,_⟩,_,Is (.slice yo yl yc),none,[],[(4,.slice yo yl yc)],rfl,rfl,rfl,rfl,rfl,⟨⟨by kernel_rfl,rfl⟩,trivial⟩,?_⟩,?_⟩
        ·intro a w1 hCC e4
         have hC:=hCC.1
         clear hCC
         refine Or.inl ⟨(.slice yo yl yc),?_,rfl⟩
         go_simp
         all_goals (first | rfl | (go_bits;rfl))
        refine ⟨ruleB rfl ⟨⟨_,_,_,_,_,_⟩,_,fcF 5 z (.rd [0]),none,[],[],rfl,rfl,rfl,rfl,rfl,trivial,?_⟩,?_⟩
        ·intro a w1 hCC
         have hC:=hCC.1
         clear hCC
         refine Or.inr (Or.inr ⟨.slice (some ⟨w1.heap.size,0,none⟩) 1 1,w1.alloc (.cells #[.int .u8 0] 5),?_,⟨_,_,rfl,Rd.built _ _ _ _ (by decide)⟩,Bl.alloc (Bl.refl _) _⟩)
         go_simp
        refine ⟨appRule0 (o:=⟨_,_,_,_,_,_⟩) (d:=87) (sa:=85) (sb:=86) (t:=37) (j0:=0) (j1:=1) (v0:=.slice yo yl yc) (xs:=ys) rfl rfl rfl rfl Tryz.underlying37 infoU8 (by kernel_rfl) (by kernel_rfl) (by kernel_rfl) (by kernel_rfl) rfl rfl rfl (.inl rfl) rfl (by (try simp only [List.length_append]);(try simp only [List.length_cons,List.length_nil]);rw [HYL.out];omega) (fun w h=>Nat.le_trans hz h.1.size) (fun w h=>h.2 rfl) (spT_app0 rfl),?_⟩
        refine ⟨ruleB rfl ⟨⟨_,_,_,_,_,_⟩,_,Is ?v18x3,none,[],[(1,.pointer (some ⟨w.heap.size,0,none⟩))],rfl,rfl,rfl,rfl,rfl,⟨⟨by kernel_rfl,rfl⟩,trivial⟩,?_⟩,?_⟩
        ·intro a w1 hCC e1
         have hC:=hCC.1
         clear hCC
         refine Or.inl ⟨_,?_,rfl⟩
         go_simp
         all_goals (first | (go_bits;rfl) | rfl | (rw [if_pos (by omega)]))
        refine ⟨ruleB rfl ⟨⟨_,_,_,_,_,_⟩,_,Is (.slice (some ⟨b,off,none⟩) nd cd),none,[(some 88,Is ?v18x3)],[],rfl,rfl,rfl,rfl,rfl,trivial,?_⟩,?_⟩
        ·intro a w1 hCC  (h3:a.tmps.getD 88 undef=_)
         have hC:=hCC.1
         clear hCC
         refine Or.inl ⟨.slice (some ⟨b,off,none⟩) nd cd,?_,rfl⟩
         have f0:=(hC.cell (p:=⟨w.heap.size,13,none⟩) hpz).trans (HX.out.cell 13 _ rfl)
         go_simp
        refine ⟨ruleB rfl ⟨⟨_,_,_,_,_,_⟩,_,Is ?v18x5,none,[],[(8,.int .i64 k)],rfl,rfl,rfl,rfl,rfl,⟨⟨by kernel_rfl,rfl⟩,trivial⟩,?_⟩,?_⟩
        ·intro a w1 hCC e8
         have hC:=hCC.1
         clear hCC
         refine Or.inl ⟨_,?_,rfl⟩
         go_simp
         all_goals (first | (go_bits;rfl) | rfl | (rw [if_pos (by omega)]))
        refine ⟨ruleB rfl ⟨⟨_,_,_,_,_,_⟩,_,Is ?v18x6,none,[(some 89,Is (.slice (some ⟨b,off,none⟩) nd cd)),(some 90,Is ?v18x5)],[],rfl,rfl,rfl,rfl,rfl,trivial,?_⟩,?_⟩
        ·intro a w1 hCC  (h4:a.tmps.getD 89 undef=_) (h5:a.tmps.getD 90 undef=_)
         have hC:=hCC.1
         clear hCC
         refine Or.inl ⟨_,?_,rfl⟩
         go_simp
         all_goals (first | (go_bits;rfl) | rfl | (rw [if_pos (by omega)]))
        refine ⟨ruleB rfl ⟨⟨_,_,_,_,_,_⟩,_,Is ?v18x7,none,[(some 91,Is ?v18x6)],[],rfl,rfl,rfl,rfl,rfl,trivial,?_⟩,?_⟩
        ·intro a w1 hCC  (h6:a.tmps.getD 91 undef=_)
         have hC:=hCC.1
         clear hCC
         refine Or.inl ⟨_,?_,rfl⟩
         go_simp
         all_goals (first | (go_bits;rfl) | rfl | (rw [if_pos (by omega)]))
        refine ⟨ruleB rfl ⟨⟨_,_,_,_,_,_⟩,_,Is (.int .i64 y1),none,[(some 92,Is ?v18x7)],[],rfl,rfl,rfl,rfl,rfl,trivial,?_⟩,?_⟩
        ·intro a w1 hCC  (h7:a.tmps.getD 92 undef=_)
         have hC:=hCC.1
         clear hCC
         refine Or.inl ⟨.int .i64 y1,?_,rfl⟩
         have f0:=(hC.cell (p:=⟨b,off + k * 2 + 0,none⟩) hbz).trans (HE0.out)
         try simp only [Nat.add_zero] at f0
         go_simp
        refine ⟨ruleB rfl ⟨⟨_,_,_,_,_,_⟩,_,Is (.agg #[.int .i64 1,.int .i64 y1]),none,[(some 93,Is (.int .i64 y1))],[],rfl,rfl,rfl,rfl,rfl,trivial,?_⟩,?_⟩
        ·intro a w1 hCC  (h8:a.tmps.getD 93 undef=_)
         have hC:=hCC.1
         clear hCC
         refine Or.inl ⟨.agg #[.int .i64 1,.int .i64 y1],?_,rfl⟩
         have h8z:a.tmps[93]?.getD undef=.int .i64 y1:=by simpa using h8
         go_simp
        refine ⟨ruleB rfl ⟨⟨_,_,_,_,_,_⟩,_,fcF 5 z (.rd us),none,[(some 94,Is (.agg #[.int .i64 1,.int .i64 y1])),(some 87,fun _ _=>True)],[],rfl,rfl,rfl,rfl,rfl,trivial,?_⟩,?_⟩
        ·intro a w1 hCC  (h9:a.tmps.getD 94 undef=_) _
         have hC:=hCC.1
         clear hCC
         refine Or.inr (Or.inl ⟨55,#[.agg #[.int .i64 1,.int .i64 y1]],?_,?_⟩)
         ·go_simp
         ·refine (refconstant_to 1 y1 w1 HMO.out HYO.out).mono ?_
          rintro e w2 ⟨vv,rfl,hown,hbel⟩
          rw [HUS.out] at hown
          obtain ⟨ao1,cap1,rfl,hrd⟩:=hown.rd
          exact ⟨_,rfl,⟨ao1,cap1,rfl,hrd⟩,hbel⟩
        refine ⟨appRule (o:=⟨_,_,_,_,_,_⟩) (d:=96) (sa:=87) (sb:=95) (t:=37) (j0:=2) (j1:=10) rfl rfl rfl rfl Tryz.underlying37 infoU8 (by kernel_rfl) (by kernel_rfl) (by kernel_rfl) (by kernel_rfl) rfl rfl rfl (.inl rfl) rfl (by (try simp only [List.length_append]);(try simp only [List.length_cons,List.length_nil]);rw [HYL.out];omega) (fun w h=>Nat.le_trans hz h.1.size) (spT_app rfl),?_⟩
        refine ⟨ruleB rfl ⟨⟨_,_,_,_,_,_⟩,_,Is ?v18x12,none,[],[(1,.pointer (some ⟨w.heap.size,0,none⟩))],rfl,rfl,rfl,rfl,rfl,⟨⟨by kernel_rfl,rfl⟩,trivial⟩,?_⟩,?_⟩
        ·intro a w1 hCC e1
         have hC:=hCC.1
         clear hCC
         refine Or.inl ⟨_,?_,rfl⟩
         go_simp
         all_goals (first | (go_bits;rfl) | rfl | (rw [if_pos (by omega)]))
        refine ⟨ruleB rfl ⟨⟨_,_,_,_,_,_⟩,_,Is (.slice (some ⟨b,off,none⟩) nd cd),none,[(some 97,Is ?v18x12)],[],rfl,rfl,rfl,rfl,rfl,trivial,?_⟩,?_⟩
        ·intro a w1 hCC  (h12:a.tmps.getD 97 undef=_)
         have hC:=hCC.1
         clear hCC
         refine Or.inl ⟨.slice (some ⟨b,off,none⟩) nd cd,?_,rfl⟩
         have f0:=(hC.cell (p:=⟨w.heap.size,13,none⟩) hpz).trans (HX.out.cell 13 _ rfl)
         go_simp
        refine ⟨ruleB rfl ⟨⟨_,_,_,_,_,_⟩,_,Is ?v18x14,none,[],[(8,.int .i64 k)],rfl,rfl,rfl,rfl,rfl,⟨⟨by kernel_rfl,rfl⟩,trivial⟩,?_⟩,?_⟩
        ·intro a w1 hCC e8
         have hC:=hCC.1
         clear hCC
         refine Or.inl ⟨_,?_,rfl⟩
         go_simp
         all_goals (first | (go_bits;rfl) | rfl | (rw [if_pos (by omega)]))
        refine ⟨ruleB rfl ⟨⟨_,_,_,_,_,_⟩,_,Is ?v18x15,none,[(some 98,Is (.slice (some ⟨b,off,none⟩) nd cd)),(some 99,Is ?v18x14)],[],rfl,rfl,rfl,rfl,rfl,trivial,?_⟩,?_⟩
        ·intro a w1 hCC  (h13:a.tmps.getD 98 undef=_) (h14:a.tmps.getD 99 undef=_)
         have hC:=hCC.1
         clear hCC
         refine Or.inl ⟨_,?_,rfl⟩
         go_simp
         all_goals (first | (go_bits;rfl) | rfl | (rw [if_pos (by omega)]))
        refine ⟨ruleB rfl ⟨⟨_,_,_,_,_,_⟩,_,Is ?v18x16,none,[(some 100,Is ?v18x15)],[],rfl,rfl,rfl,rfl,rfl,trivial,?_⟩,?_⟩
        ·intro a w1 hCC  (h15:a.tmps.getD 100 undef=_)
         have hC:=hCC.1
         clear hCC
         refine Or.inl ⟨_,?_,rfl⟩
         go_simp
         all_goals (first | (go_bits;rfl) | rfl | (rw [if_pos (by omega)]))
        refine ⟨ruleB rfl ⟨⟨_,_,_,_,_,_⟩,_,Is (.slice a2 m2 k2),none,[(some 101,Is ?v18x16)],[],rfl,rfl,rfl,rfl,rfl,trivial,?_⟩,?_⟩
        ·intro a w1 hCC  (h16:a.tmps.getD 101 undef=_)
         have hC:=hCC.1
         clear hCC
         refine Or.inl ⟨.slice a2 m2 k2,?_,rfl⟩
         have f0:=(hC.cell (p:=⟨b,off + k * 2 + 1,none⟩) hbz).trans (HE1.out)
         try simp only [Nat.add_zero] at f0
         go_simp
        refine ⟨ruleB rfl ⟨⟨_,_,_,_,_,_⟩,_,Is (.int .i64 m2),none,[(some 102,Is (.slice a2 m2 k2))],[],rfl,rfl,rfl,rfl,rfl,trivial,?_⟩,?_⟩
        ·intro a w1 hCC  (h17:a.tmps.getD 102 undef=_)
         have hC:=hCC.1
         clear hCC
         refine Or.inl ⟨(.int .i64 m2),?_,rfl⟩
         go_simp
         all_goals (first | rfl | (go_bits;rfl))
        refine ⟨ruleB rfl ⟨⟨_,_,_,_,_,_⟩,_,Is ?v18x19,none,[],[(1,.pointer (some ⟨w.heap.size,0,none⟩))],rfl,rfl,rfl,rfl,rfl,⟨⟨by kernel_rfl,rfl⟩,trivial⟩,?_⟩,?_⟩
        ·intro a w1 hCC e1
         have hC:=hCC.1
         clear hCC
         refine Or.inl ⟨_,?_,rfl⟩
         go_simp
         all_goals (first | (go_bits;rfl) | rfl | (rw [if_pos (by omega)]))
        refine ⟨ruleB rfl ⟨⟨_,_,_,_,_,_⟩,_,Is (.slice (some ⟨b,off,none⟩) nd cd),none,[(some 104,Is ?v18x19)],[],rfl,rfl,rfl,rfl,rfl,trivial,?_⟩,?_⟩
        ·intro a w1 hCC  (h19:a.tmps.getD 104 undef=_)
         have hC:=hCC.1
         clear hCC
         refine Or.inl ⟨.slice (some ⟨b,off,none⟩) nd cd,?_,rfl⟩
         have f0:=(hC.cell (p:=⟨w.heap.size,13,none⟩) hpz).trans (HX.out.cell 13 _ rfl)
         go_simp
        refine ⟨ruleB rfl ⟨⟨_,_,_,_,_,_⟩,_,Is ?v18x21,none,[],[(8,.int .i64 k)],rfl,rfl,rfl,rfl,rfl,⟨⟨by kernel_rfl,rfl⟩,trivial⟩,?_⟩,?_⟩
        ·intro a w1 hCC e8
         have hC:=hCC.1
         clear hCC
         refine Or.inl ⟨_,?_,rfl⟩
         go_simp
         all_goals (first | (go_bits;rfl) | rfl | (rw [if_pos (by omega)]))
        refine ⟨ruleB rfl ⟨⟨_,_,_,_,_,_⟩,_,Is ?v18x22,none,[(some 105,Is (.slice (some ⟨b,off,none⟩) nd cd)),(some 106,Is ?v18x21)],[],rfl,rfl,rfl,rfl,rfl,trivial,?_⟩,?_⟩
        ·intro a w1 hCC  (h20:a.tmps.getD 105 undef=_) (h21:a.tmps.getD 106 undef=_)
         have hC:=hCC.1
         clear hCC
         refine Or.inl ⟨_,?_,rfl⟩
         go_simp
         all_goals (first | (go_bits;rfl) | rfl | (rw [if_pos (by omega)]))
        refine ⟨ruleB rfl ⟨⟨_,_,_,_,_,_⟩,_,Is ?v18x23,none,[(some 107,Is ?v18x22)],[],rfl,rfl,rfl,rfl,rfl,trivial,?_⟩,?_⟩
        ·intro a w1 hCC  (h22:a.tmps.getD 107 undef=_)
         have hC:=hCC.1
         clear hCC
         refine Or.inl ⟨_,?_,rfl⟩
         go_simp
         all_goals (first | (go_bits;rfl) | rfl | (rw [if_pos (by omega)]))
        refine ⟨ruleB rfl ⟨⟨_,_,_,_,_,_⟩,_,Is (.slice a2 m2 k2),none,[(some 108,Is ?v18x23)],[],rfl,rfl,rfl,rfl,rfl,trivial,?_⟩,?_⟩
        ·intro a w1 hCC  (h23:a.tmps.getD 108 undef=_)
         have hC:=hCC.1
         clear hCC
         refine Or.inl ⟨.slice a2 m2 k2,?_,rfl⟩
         have f0:=(hC.cell (p:=⟨b,off + k * 2 + 1,none⟩) hbz).trans (HE1.out)
         try simp only [Nat.add_zero] at f0
         go_simp
        refine ⟨ruleB rfl ⟨⟨_,_,_,_,_,_⟩,_,fcF 5 z (.rd vs),none,[(some 103,Is (.int .i64 m2)),(some 109,Is (.slice a2 m2 k2)),(some 96,fun _ _=>True)],[],rfl,rfl,rfl,rfl,rfl,trivial,?_⟩,?_⟩
        ·intro a w1 hCC  (h18:a.tmps.getD 103 undef=_) (h24:a.tmps.getD 109 undef=_) _
         have hC:=hCC.1
         clear hCC
         refine Or.inr (Or.inl ⟨123,#[.int .i64 m2,.slice a2 m2 k2],?_,?_⟩)
         ·go_simp
         ·refine (refvec_to m2 a2 m2 k2 y2 w1 (by omega) (by omega) (HR2.out.below (HBW.out.trans (hC.mono hwz))) (by omega)).mono ?_
          rintro e w2 ⟨vv,rfl,hown,hbel⟩
          rw [HVS.out] at hown
          obtain ⟨ao1,cap1,rfl,hrd⟩:=hown.rd
          exact ⟨_,rfl,⟨ao1,cap1,rfl,hrd⟩,hbel⟩
        refine ⟨appRule (o:=⟨_,_,_,_,_,_⟩) (d:=111) (sa:=96) (sb:=110) (t:=37) (j0:=11) (j1:=25) rfl rfl rfl rfl Tryz.underlying37 infoU8 (by kernel_rfl) (by kernel_rfl) (by kernel_rfl) (by kernel_rfl) rfl rfl rfl (.inl rfl) rfl (by (try simp only [List.length_append]);(try simp only [List.length_cons,List.length_nil]);rw [HYL.out];omega) (fun w h=>Nat.le_trans hz h.1.size) (spT_app rfl),?_⟩
        refine ⟨ruleB rfl ⟨⟨_,_,_,_,_,_⟩,_,fcF 5 z (.own (ys ++ [0] ++ us ++ vs)),none,[(some 111,fcF 5 z (.own (ys ++ [0] ++ us ++ vs))),(some 111,fcF 5 z (.own (ys ++ [0] ++ us ++ vs))),(some 85,fun _ _=>True),(some 86,fun _ _=>True),(some 87,fun _ _=>True),(some 88,fun _ _=>True),(some 89,fun _ _=>True),(some 90,fun _ _=>True),(some 91,fun _ _=>True),(some 92,fun _ _=>True),(some 93,fun _ _=>True),(some 94,fun _ _=>True),(some 95,fun _ _=>True),(some 96,fun _ _=>True),(some 97,fun _ _=>True),(some 98,fun _ _=>True),(some 99,fun _ _=>True),(some 100,fun _ _=>True),(some 101,fun _ _=>True),(some 102,fun _ _=>True),(some 103,fun _ _=>True),(some 104,fun _ _=>True),(some 105,fun _ _=>True),(some 106,fun _ _=>True),(some 107,fun _ _=>True),(some 108,fun _ _=>True),(some 109,fun _ _=>True),(some 110,fun _ _=>True),(some 111,fcF 5 z (.own (ys ++ [0] ++ us ++ vs)))],[],rfl,rfl,rfl,rfl,rfl,trivial,?_⟩,?_⟩
        ·intro a w1 hCC  h26 h26 _ _ _ _ _ _ _ _ _ _ _ _ _ _ _ _ _ _ _ _ _ _ _ _ _ _ h26
         have hC:=hCC.1
         clear hCC
         refine Or.inl ⟨_,?_,h26⟩
         go_simp
         all_goals simp [slotV]
        exact trivial
       case hz=>exact hz
       case hok=>kernel_rfl
       case hla=>kernel_rfl
       case hfi=>kernel_rfl
       case hend =>
        intro w1 hC
        rintro _ rfl
        intro x1 _
        intro x2 _
        rintro _ rfl
        rintro _ rfl
        rintro _ rfl
        rintro _ rfl
        rintro _ rfl
        rintro _ rfl
        rintro _ rfl
        intro x10 _
        intro x11 _
        rintro _ rfl
        rintro _ rfl
        rintro _ rfl
        rintro _ rfl
        rintro _ rfl
        rintro _ rfl
        rintro _ rfl
        rintro _ rfl
        rintro _ rfl
        rintro _ rfl
        rintro _ rfl
        rintro _ rfl
        rintro _ rfl
        intro x25 _
        intro x26 _
        intro xf hf
        simp only [Ends,Act.put,List.setIfInBounds_toArray,List.set_cons_succ,List.set_cons_zero]
        have HO5:=hid hf
        have HB5:=hid hC
        have hfin:(D.take (k + 1)).flatMap daE=ys ++ [0] ++ us ++ vs:=by
         rw [HTF.out,<- HYS.out,daE,show szE y2=numE (m2:Int) ++ y2 by unfold szE;rw [HLM.out];rfl,HUS.out,HVS.out];simp
        have HFIN:=hid hfin
        clear hfin
        go_wp2_with fail
        go_roundw
        case rel=>exact ⟨k + 1,by omega,by go_num,by rw [HFIN.out];exact HO5.out,HBR.out.trans HB5.out⟩
        case measure=>simp [intOf];omega
      ·
       have e0:k=nd:=by omega
       subst e0
       rw [List.take_of_length_le (by rw [HLd.out];exact Nat.le_refl _)] at HYS
       go_wp2_with fail
       have hss:D.length <= 32:=by rw [HLd.out];omega
       refine (refsection_to 11 (by decide) _ yo yl yc ys wr (by omega) HRY.out (by omega)).mono ?_
       rintro e w5 ⟨v5,rfl,h5,b5⟩
       rw [sec_of 11 daE D _ ys HLd.out HYS.out] at h5
       have hsl:=sec_len 11 daE D
       rw [<- HYS.out,HYL.out] at hsl
       obtain ⟨td,htd⟩:∃ q,secE 11 daE D=q:=⟨_,rfl⟩
       rw [htd] at h5 hsl
       have HTd:=hid htd
       obtain ⟨so,sc,rfl,hrs⟩:=h5.rd
       have HRS:=hid hrs
       have h56:=b5.size
       have hz5:w0.heap.size <= w5.heap.size:=by have:=HB.out.size;have:=HZ.out;omega
       have HB5:=hid (HB.out.trans ((HBR.out.trans (b5.mono hsr)).mono (show w0.heap.size <= z by have:=HB.out.size;rw [HZ.out] at this;exact this)))
       have HBO5:=hid ((HBO.out.below (HBR.out.trans (b5.mono hsr)) (by rw [HZ.out];exact Nat.le_refl _)))
       clear h5 b5 htd hrs
       go_wp2_with (at_builtin;refine wpList_append_rd rfl (.tmp 112) (.tmp 117) 37 rfl 5 .u8 w0.heap.size 1 Tryz.underlying37 infoU8 _ bs rfl HBO5.out so _ sc td rfl HRS.out (by omega) (by omega) hz5 ?_;intro v6 w6 o6 b6 _;have HO6:=hid o6;have HB6:=hid b6;clear o6 b6)
       have hfin:bs ++ td=secE 9 elE L ++ (secE 10 coE C ++ secE 11 daE D):=by rw [<- HCc.out,<- HCl.out,HBS.out,HTl.out,HTc.out,HTd.out];simp
       rw [hfin] at HO6
       go_ret
       exact ⟨_,rfl,HO6.out.lift (by rw [HZ0.out];omega),HB0.out.trans ((HB5.out.trans HB6.out).mono (by rw [HZ0.out];omega))⟩
end Go.Proofs.YtbkofpljchkkaaaGreat
