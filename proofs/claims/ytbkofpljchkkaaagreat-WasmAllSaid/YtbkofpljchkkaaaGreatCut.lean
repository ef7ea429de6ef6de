/- Words: Cut. -/
import Derived.Deep.CutBlock
import Derived.Test.YtbkofpljchkkaaaGreatCutW
set_option maxRecDepth 100000
set_option maxHeartbeats 8000000
namespace Go.Proofs.YtbkofpljchkkaaaGreat
open Go.RowKit
theorem qGs (V:MoV) (M:MMo) (w:World) (h:Rx w (MoR V M)) :
    Calls Tryz.prog 9 #[.agg (V.cells M).toArray] w fun e w'=>∃ V':MoV,e=.returned (.agg (V'.cells (qCd M)).toArray) /\ Bx (fun b=>w.heap.size <= b /\ b < w'.heap.size) w' (MoR V' (qCd M)) /\ Below w.heap.size w w':=by
 obtain ⟨⟨ot,nt,ct⟩,⟨oi,ni,ci⟩,⟨of,nf,cf⟩,⟨og,ng,cg⟩,⟨oe,ne,ce⟩,⟨ol,nl,cl⟩,⟨oc,nc,cc⟩,⟨od,nd,cd⟩⟩:=V
 obtain ⟨T,I,F,⟨th,tm,tx⟩,⟨mh,mm,mx⟩,G,E,L,C,D⟩:=M
 simp only [MoV.cells]
 have HQt:Hid (Rx w fun w=>RdG 2 TyR w ot nt ct T):=hid (h.imp fun _ h=>h.t)
 have HLt:Hid (T.length=nt):=hid h.now.t.len
 have hmt:nt <= 9223372036854775807:=h.now.t.cap63.1
 have HQi:Hid (Rx w fun w=>RdG 3 ImR w oi ni ci I):=hid (h.imp fun _ h=>h.i)
 have HLi:Hid (I.length=ni):=hid h.now.i.len
 have hmi:ni <= 9223372036854775807:=h.now.i.cap63.1
 have HQf:Hid (Rd .i64 w of nf cf F):=hid h.now.f
 have HQg:Hid (Rx w fun w=>RdG 3 GlR w og ng cg G):=hid (h.imp fun _ h=>h.g)
 have HLg:Hid (G.length=ng):=hid h.now.g.len
 have hmg:ng <= 9223372036854775807:=h.now.g.cap63.1
 have HQe:Hid (Rx w fun w=>RdG 2 ExR w oe ne ce E):=hid (h.imp fun _ h=>h.e)
 have HLe:Hid (E.length=ne):=hid h.now.e.len
 have hme:ne <= 9223372036854775807:=h.now.e.cap63.1
 have HQl:Hid (Rx w fun w=>RdG 2 ElR w ol nl cl L):=hid (h.imp fun _ h=>h.l)
 have HLl:Hid (L.length=nl):=hid h.now.l.len
 have hml:nl <= 9223372036854775807:=h.now.l.cap63.1
 have HQc:Hid (Rx w fun w=>RdG 2 CoR w oc nc cc C):=hid (h.imp fun _ h=>h.c)
 have HLc:Hid (C.length=nc):=hid h.now.c.len
 have hmc:nc <= 9223372036854775807:=h.now.c.cap63.1
 have HQd:Hid (Rx w fun w=>RdG 2 DaR w od nd cd D):=hid (h.imp fun _ h=>h.d)
 have HLd:Hid (D.length=nd):=hid h.now.d.len
 have hmd:nd <= 9223372036854775807:=h.now.d.cap63.1
 obtain ⟨p,hp⟩:∃ p,w.heap.size=p:=⟨_,rfl⟩
 have hb0:Below w.heap.size w ((w.alloc (.cells #[.slice ot nt ct,.slice oi ni ci,.slice of nf cf,.bool th,.int .i64 tm,.int .i64 tx,.bool mh,.int .i64 mm,.int .i64 mx,.slice og ng cg,.slice oe ne ce,.slice ol nl cl,.slice oc nc cc,.slice od nd cd] 33)).alloc (.cells #[.slice none 0 0,.slice none 0 0,.slice none 0 0,.bool false,.int .i64 0,.int .i64 0,.bool false,.int .i64 0,.int .i64 0,.slice none 0 0,.slice none 0 0,.slice none 0 0,.slice none 0 0,.slice none 0 0] 33)):=Bl.alloc (Bl.alloc (Bl.refl w) _) _
 have hx0:Cel ((w.alloc (.cells #[.slice ot nt ct,.slice oi ni ci,.slice of nf cf,.bool th,.int .i64 tm,.int .i64 tx,.bool mh,.int .i64 mm,.int .i64 mx,.slice og ng cg,.slice oe ne ce,.slice ol nl cl,.slice oc nc cc,.slice od nd cd] 33)).alloc (.cells #[.slice none 0 0,.slice none 0 0,.slice none 0 0,.bool false,.int .i64 0,.int .i64 0,.bool false,.int .i64 0,.int .i64 0,.slice none 0 0,.slice none 0 0,.slice none 0 0,.slice none 0 0,.slice none 0 0] 33)) p [.slice ot nt ct,.slice oi ni ci,.slice of nf cf,.bool th,.int .i64 tm,.int .i64 tx,.bool mh,.int .i64 mm,.int .i64 mx,.slice og ng cg,.slice oe ne ce,.slice ol nl cl,.slice oc nc cc,.slice od nd cd]:=hp ▸ (Cel.new w [.slice ot nt ct,.slice oi ni ci,.slice of nf cf,.bool th,.int .i64 tm,.int .i64 tx,.bool mh,.int .i64 mm,.int .i64 mx,.slice og ng cg,.slice oe ne ce,.slice ol nl cl,.slice oc nc cc,.slice od nd cd] 33).below (qW5 _) (Bl.alloc (Bl.refl _) _)
 have hr0:=Cel.new (w.alloc (.cells #[.slice ot nt ct,.slice oi ni ci,.slice of nf cf,.bool th,.int .i64 tm,.int .i64 tx,.bool mh,.int .i64 mm,.int .i64 mx,.slice og ng cg,.slice oe ne ce,.slice ol nl cl,.slice oc nc cc,.slice od nd cd] 33)) [.slice none 0 0,.slice none 0 0,.slice none 0 0,.bool false,.int .i64 0,.int .i64 0,.bool false,.int .i64 0,.int .i64 0,.slice none 0 0,.slice none 0 0,.slice none 0 0,.slice none 0 0,.slice none 0 0] 33
 have hz1:(w.alloc (.cells #[.slice ot nt ct,.slice oi ni ci,.slice of nf cf,.bool th,.int .i64 tm,.int .i64 tx,.bool mh,.int .i64 mm,.int .i64 mx,.slice og ng cg,.slice oe ne ce,.slice ol nl cl,.slice oc nc cc,.slice od nd cd] 33)).heap.size=p + 1:=(by simp [hp])
 have hz0:((w.alloc (.cells #[.slice ot nt ct,.slice oi ni ci,.slice of nf cf,.bool th,.int .i64 tm,.int .i64 tx,.bool mh,.int .i64 mm,.int .i64 mx,.slice og ng cg,.slice oe ne ce,.slice ol nl cl,.slice oc nc cc,.slice od nd cd] 33)).alloc (.cells #[.slice none 0 0,.slice none 0 0,.slice none 0 0,.bool false,.int .i64 0,.int .i64 0,.bool false,.int .i64 0,.int .i64 0,.slice none 0 0,.slice none 0 0,.slice none 0 0,.slice none 0 0,.slice none 0 0] 33)).heap.size=p + 2:=(by simp [hp])
 rw [hz1] at hr0
 obtain ⟨w0,hw0⟩:∃ w0,((w.alloc (.cells #[.slice ot nt ct,.slice oi ni ci,.slice of nf cf,.bool th,.int .i64 tm,.int .i64 tx,.bool mh,.int .i64 mm,.int .i64 mx,.slice og ng cg,.slice oe ne ce,.slice ol nl cl,.slice oc nc cc,.slice od nd cd] 33)).alloc (.cells #[.slice none 0 0,.slice none 0 0,.slice none 0 0,.bool false,.int .i64 0,.int .i64 0,.bool false,.int .i64 0,.int .i64 0,.slice none 0 0,.slice none 0 0,.slice none 0 0,.slice none 0 0,.slice none 0 0] 33))=w0:=⟨_,rfl⟩
 have hr1:Cel w0 (p + 1) [.slice none 0 0,.slice none 0 0,.slice none 0 0,.bool false,.int .i64 0,.int .i64 0,.bool false,.int .i64 0,.int .i64 0,.slice none 0 0,.slice none 0 0,.slice none 0 0,.slice none 0 0,.slice none 0 0]:=(by rw [<- hw0];exact hr0)
 rw [hw0] at hb0 hz0 hx0
 have HB0:=hid hb0;have HX0:=hid hx0;have HR0:=hid hr1;have HZ0:=hid hz0;have HW0:=hid hw0;have HP:=hid hp;have HZ1:=hid hz1
 clear h hb0 hx0 hr0 hr1 hz0 hw0 hz1 hp
 go_enter Tryz.func9,Tryz.ntmps9
 go_wp2_with fail
 rw [HW0.out]
 rw [HP.out]
 refine qD 9 (by kernel_rfl) [Is ?vA0,Is (.slice of nf cf),jW 3 .i64 (p + 2) (F.take 18),Is ?vA3,Is (.agg #[.bool th,.int .i64 tm,.int .i64 tx]),Is ?vA5,Is (.agg #[.bool mh,.int .i64 mm,.int .i64 mx]),qV5 p (F.take 18) th tm tx mh mm mx,qV4 p] _ rfl (by kernel_rfl) rfl (by kernel_rfl) ?hopA ?hstA ?hendA
 case hopA =>
  refine ⟨rq _ _ _ [(1,.pointer (some ⟨p,0,none⟩))] ⟨⟨by kernel_rfl,rfl⟩,trivial⟩ ?_,?_⟩
  ·intro a w1 hC e1;refine Or.inl ⟨_,?_,rfl⟩;go_simp;rfl
  refine ⟨rq _ _ _ [] trivial ?_,?_⟩
  ·intro a w1 hC (h0:a.tmps.getD 11 undef=_);refine Or.inl ⟨.slice of nf cf,?_,rfl⟩;have f0:=(HX0.out.below (qW5 _) hC).cell 2 _ rfl;go_simp
  refine ⟨rq _ _ _ [] trivial ?_,?_⟩
  ·intro a w1 hC (h1:a.tmps.getD 12 undef=_);refine Or.inr (Or.inl ⟨18,#[.slice of nf cf,.int .i64 18],?_,?_⟩)
   ·go_simp
   ·refine (qC1 18 18 rfl (by decide) of nf cf F w1 (HQf.out.below (HB0.out.trans (hC.mono HB0.out.size)))).mono ?_;rintro e w2 ⟨vv,rfl,hown,hbel⟩;exact ⟨_,rfl,hown.lift (by have:=hC.size;rw [HZ0.out] at this;exact this),hbel⟩
  refine ⟨rq _ _ _ [(1,.pointer (some ⟨p,0,none⟩))] ⟨⟨by kernel_rfl,rfl⟩,trivial⟩ ?_,?_⟩
  ·intro a w1 hC e1;refine Or.inl ⟨_,?_,rfl⟩;go_simp;rfl
  refine ⟨rq _ _ _ [] trivial ?_,?_⟩
  ·intro a w1 hC (h3:a.tmps.getD 14 undef=_);refine Or.inl ⟨.agg #[.bool th,.int .i64 tm,.int .i64 tx],?_,rfl⟩;have f0:=(HX0.out.below (qW5 _) hC).cell 3 _ rfl;have f1:=(HX0.out.below (qW5 _) hC).cell 4 _ rfl;have f2:=(HX0.out.below (qW5 _) hC).cell 5 _ rfl;go_simp
  refine ⟨rq _ _ _ [(1,.pointer (some ⟨p,0,none⟩))] ⟨⟨by kernel_rfl,rfl⟩,trivial⟩ ?_,?_⟩
  ·intro a w1 hC e1;refine Or.inl ⟨_,?_,rfl⟩;go_simp;rfl
  refine ⟨rq _ _ _ [] trivial ?_,?_⟩
  ·intro a w1 hC (h5:a.tmps.getD 16 undef=_);refine Or.inl ⟨.agg #[.bool mh,.int .i64 mm,.int .i64 mx],?_,rfl⟩;have f0:=(HX0.out.below (qW5 _) hC).cell 6 _ rfl;have f1:=(HX0.out.below (qW5 _) hC).cell 7 _ rfl;have f2:=(HX0.out.below (qW5 _) hC).cell 8 _ rfl;go_simp
  refine ⟨rq _ _ _ [] trivial ?_,?_⟩
  ·intro a w1 hC h2 (h4:a.tmps.getD 15 undef=_) (h6:a.tmps.getD 17 undef=_);have h2q:=h2;obtain ⟨o1,k1,e1,_⟩:=Own.bx h2;have e2:=e1;have e1:a.tmps.getD 13 undef=_:=e1;rw [qXn] at e1;refine Or.inl ⟨.agg #[.slice none 0 0,.slice none 0 0,.slice o1 (F.take 18).length k1,.bool th,.int .i64 tm,.int .i64 tx,.bool mh,.int .i64 mm,.int .i64 mx,.slice none 0 0,.slice none 0 0,.slice none 0 0,.slice none 0 0,.slice none 0 0],?_,⟨o1,_,k1,rfl,?_⟩⟩
   ·rw [qXn] at h4 h6;go_simp
   ·rw [<- e2];exact h2q
  refine ⟨rq _ _ _ [] trivial ?_,?_⟩
  ·intro a w1 hC;refine Or.inr (Or.inr ⟨.pointer (some ⟨w1.heap.size,0,none⟩),w1.alloc (.cells #[.slice none 0 0,.slice none 0 0,.slice none 0 0,.bool false,.int .i64 0,.int .i64 0,.bool false,.int .i64 0,.int .i64 0,.slice none 0 0,.slice none 0 0,.slice none 0 0,.slice none 0 0,.slice none 0 0] 33),?_,⟨_,rfl,by have:=hC.size;rw [HZ0.out] at this;exact this,heap_alloc_new w1 _⟩,Bl.alloc (Bl.refl _) _⟩);go_simp
  exact trivial
 case hstA=>repeat (first | exact trivial | refine ⟨qB.is _,?_⟩ | refine ⟨qB.own _ _ _ _,?_⟩ | refine ⟨qB.cm _ _ _ _ _ _ _ _,?_⟩ | refine ⟨qB.bk _,?_⟩)
 case hendA =>
  intro w1 hC;rintro _ rfl _ rfl;intro x2 h2;rintro _ rfl _ rfl _ rfl _ rfl;intro x7 h7;intro x8 h8;obtain ⟨q,rfl,hpq,hqh⟩:=h8;obtain ⟨pf0,mf0,rf0,rfl,hof⟩:=h7;have hs1:=hC.size;rw [HZ0.out] at hs1
  have hcq:Cel w1 q [.slice none 0 0,.slice none 0 0,.slice none 0 0,.bool false,.int .i64 0,.int .i64 0,.bool false,.int .i64 0,.int .i64 0,.slice none 0 0,.slice none 0 0,.slice none 0 0,.slice none 0 0,.slice none 0 0]:=⟨fun i v hi=>by unfold World.cell?;dsimp only;rw [hqh];simpa using hi,fun i v hi=>by unfold World.frozen?;dsimp only;rw [hqh];simp⟩
  obtain ⟨pf,rf,hsl,hbx⟩:=Own.bxq hof hqh (by decide)
  obtain ⟨mf,hmf⟩:∃ n,(F.take 18).length=n:=⟨_,rfl⟩
  rw [hmf] at hsl hbx;obtain ⟨rfl,rfl,rfl⟩:pf0=pf /\ mf0=mf /\ rf0=rf:=by simpa using hsl
  obtain ⟨pf,rfl⟩:∃ x,x=pf0:=⟨_,rfl⟩
  obtain ⟨mf,rfl⟩:∃ x,x=mf0:=⟨_,rfl⟩
  obtain ⟨rf,rfl⟩:∃ x,x=rf0:=⟨_,rfl⟩
  have hq2:q < w1.heap.size:=(qXw.1 hqh).1
  obtain ⟨ws,hws⟩:∃ ws,((((((((((((((w1.setCell ⟨q,0,none⟩ (.slice none 0 0)).setCell ⟨q,1,none⟩ (.slice none 0 0)).setCell ⟨q,2,none⟩ (.slice pf mf rf)).setCell ⟨q,3,none⟩ (.bool th)).setCell ⟨q,4,none⟩ (.int .i64 tm)).setCell ⟨q,5,none⟩ (.int .i64 tx)).setCell ⟨q,6,none⟩ (.bool mh)).setCell ⟨q,7,none⟩ (.int .i64 mm)).setCell ⟨q,8,none⟩ (.int .i64 mx)).setCell ⟨q,9,none⟩ (.slice none 0 0)).setCell ⟨q,10,none⟩ (.slice none 0 0)).setCell ⟨q,11,none⟩ (.slice none 0 0)).setCell ⟨q,12,none⟩ (.slice none 0 0)).setCell ⟨q,13,none⟩ (.slice none 0 0))=ws:=⟨_,rfl⟩
  have hgA:w1.grownBy ws (some q):=(by rw [<- hws];exact (qC (qC (qC (qC (qC (qC (qC (qC (qC (qC (qC (qC (qC (qC (qO _ _) 0 _) 1 _) 2 _) 3 _) 4 _) 5 _) 6 _) 7 _) 8 _) 9 _) 10 _) 11 _) 12 _) 13 _))
  have hcs:Cel ws q [.slice none 0 0,.slice none 0 0,.slice pf mf rf,.bool th,.int .i64 tm,.int .i64 tx,.bool mh,.int .i64 mm,.int .i64 mx,.slice none 0 0,.slice none 0 0,.slice none 0 0,.slice none 0 0,.slice none 0 0]:=hws ▸ ((((((((((((((hcq.set 0 (.slice none 0 0) (by simp)).set 1 (.slice none 0 0) (by simp)).set 2 (.slice pf mf rf) (by simp)).set 3 (.bool th) (by simp)).set 4 (.int .i64 tm) (by simp)).set 5 (.int .i64 tx) (by simp)).set 6 (.bool mh) (by simp)).set 7 (.int .i64 mm) (by simp)).set 8 (.int .i64 mx) (by simp)).set 9 (.slice none 0 0) (by simp)).set 10 (.slice none 0 0) (by simp)).set 11 (.slice none 0 0) (by simp)).set 12 (.slice none 0 0) (by simp)).set 13 (.slice none 0 0) (by simp));have a0:=hcq.cell 0 _ rfl;have a1:=hcq.cell 1 _ rfl;have a2:=hcq.cell 2 _ rfl;have a3:=hcq.cell 3 _ rfl;have a4:=hcq.cell 4 _ rfl;have a5:=hcq.cell 5 _ rfl;have a6:=hcq.cell 6 _ rfl;have a7:=hcq.cell 7 _ rfl;have a8:=hcq.cell 8 _ rfl;have a9:=hcq.cell 9 _ rfl;have a10:=hcq.cell 10 _ rfl;have a11:=hcq.cell 11 _ rfl;have a12:=hcq.cell 12 _ rfl;have a13:=hcq.cell 13 _ rfl;have fa0:=hcq.fro 0 _ rfl;have fa1:=hcq.fro 1 _ rfl;have fa2:=hcq.fro 2 _ rfl;have fa3:=hcq.fro 3 _ rfl;have fa4:=hcq.fro 4 _ rfl;have fa5:=hcq.fro 5 _ rfl;have fa6:=hcq.fro 6 _ rfl;have fa7:=hcq.fro 7 _ rfl;have fa8:=hcq.fro 8 _ rfl;have fa9:=hcq.fro 9 _ rfl;have fa10:=hcq.fro 10 _ rfl;have fa11:=hcq.fro 11 _ rfl;have fa12:=hcq.fro 12 _ rfl;have fa13:=hcq.fro 13 _ rfl;have HC:=hid hcs;have HWS:=hid hws;have hblk:∀ b,b < w1.heap.size -> b ≠ q -> ws.heap[b]?=w1.heap[b]?:=fun b hb hne=>hgA.block b hb (fun e=>hne (by simpa using e))
  have HB:Hid (Below (p + 2) w0 ws):=hid (qAb (hC.mono (by rw [HZ0.out];exact qW8 _)) hgA hs1 hpq)
  have HPV:Hid (Bx (fun b=>p + 2 <= b /\ b < ws.heap.size /\ b ≠ q) ws (fun w=>True /\ Rd .i64 w pf mf rf (F.take 18))):=hid (by
   have hsz:ws.heap.size=w1.heap.size:=(by rw [<- hws];simp)
   rw [hsz]
   exact (hbx.keep fun b hb=>hblk b hb.2.1 hb.2.2).imp fun w h=>⟨trivial,h⟩)
  obtain ⟨Φ,HFf,HPV⟩:=qB6 HPV;have HQS:Hid (q < ws.heap.size):=hid (qXr hq2 hgA.size);clear hof hsl hbx hws hgA hcs hblk hmf hqh hcq hC hs1;simp only [xV,Act.put,qXj,qXp,qXo,qXm,qXv];go_upto_block 0 with fail;clear a0 a1 a2 a3 a4 a5 a6 a7 a8 a9 a10 a11 a12 a13 fa0 fa1 fa2 fa3 fa4 fa5 fa6 fa7 fa8 fa9 fa10 fa11 fa12 fa13 hq2;rw [HWS.out];clear HWS;go_cut [4] from 19 to 49 (fun u wc=>∃ (kk:Nat) (pt:Option Addr) (mt rt:Nat),u=.int .i64 kk /\ Hid (Below (p + 2) w0 wc) /\ Hid (Cel wc q [.slice pt mt rt,.slice none 0 0,.slice pf mf rf,.bool th,.int .i64 tm,.int .i64 tx,.bool mh,.int .i64 mm,.int .i64 mx,.slice none 0 0,.slice none 0 0,.slice none 0 0,.slice none 0 0,.slice none 0 0]) /\ Hid (Bx (fun b=>p + 2 <= b /\ b < wc.heap.size /\ b ≠ q) wc (fun w=>Φ w /\ RdG 2 TyR w pt mt rt ((T.take 18).map vE))) /\ Hid (q < wc.heap.size))
  case first =>
   obtain ⟨S,hS⟩:∃ S,ws.heap.size=S:=⟨_,rfl⟩
   have hqS:q < S:=(by rw [<- hS];exact HQS.out)
   have HPS:Hid (Bx (fun b=>p + 2 <= b /\ b < S /\ b ≠ q) ws Φ):=hid (by rw [<- hS];exact HPV.out);have HSS:Hid (S <= ws.heap.size):=hid (Nat.le_of_eq hS.symm);clear hS HPV;go_wp2_with fail;go_loopw [4] (fun i wr=>∃ (k:Nat) (v:Value),k <= nt /\ k <= 18 /\ i=.int .i64 k /\ Hid (Below (p + 2) w0 wr) /\ Hid (Cel wr q [v,.slice none 0 0,.slice pf mf rf,.bool th,.int .i64 tm,.int .i64 tx,.bool mh,.int .i64 mm,.int .i64 mx,.slice none 0 0,.slice none 0 0,.slice none 0 0,.slice none 0 0,.slice none 0 0]) /\ Hid (OwnG 53 2 TyR S wr v ((T.take k).map vE)) /\ Hid (Bx (fun b=>p + 2 <= b /\ b < S /\ b ≠ q) wr Φ) /\ Hid (S <= wr.heap.size)) (fun i _=>18 - (intOf i).toNat)
   case atStart=>exact ⟨0,_,qXf _,qXf _,rfl,HB,HC,hid (by simpa using OwnG.nil _ _ _ _ _),HPS,HSS⟩
   case round =>
    clear HB HC HPS HSS HQS;obtain ⟨k,v,hkn,hk18,rfl,HB,HC,HO,HPR,HSR⟩:=hrel;have hsr:=HSR.out;obtain ⟨vo,vc,rfl,hsh1,hsh2,_⟩:=HO.out.shape;have hll:((T.take k).map vE).length=k:=by simp [HLt.out];omega
    rw [hll] at HO HC hsh1;have HLL:=hid hll;clear hll;have HX:=hid (HX0.out.keep (show p < p + 2 by omega) HB.out);have g0:=HX.out.cell 0 _ rfl
    have hpr:p < wr.heap.size:=(by omega)
    by_cases hk:k < nt /\ k < 18
    ·
     obtain ⟨hk,hk3⟩:=hk
     obtain ⟨x,hx⟩:∃ x,T[k]?=some x:=⟨T[k]'(by rw [HLt.out];omega),qW6 (by rw [HLt.out];omega)⟩
     have htf:(T.take (k + 1)).map vE=(T.take k).map vE ++ [vE x]:=by
      rw [qXy,hx];simp
     have HTF:=hid htf;clear htf;obtain ⟨b,off,cs,rfl,hcl,hRR,hcw⟩:=RdG.elem HQt.out hx;have hbw:b < w.heap.size:=qXc w _ (hcw 0 cs[0] (qW6 (by omega)));have hbp:b < p:=by have:=HP.out;omega
     have HBW:Hid (Below w.heap.size w wr):=hid (HB0.out.trans (HB.out.mono (by rw [HP.out];omega)));have hcc:=fun j v hj=>(HBW.out.cell (p:=⟨b,off + k * 2 + j,none⟩) hbw).trans (hcw j v hj)
     have hbr:b < wr.heap.size:=(by omega)
     obtain ⟨y1,y2⟩:=x;obtain ⟨a1,m1,k1,a2,m2,k2,rfl,hr1,hr2⟩:=hRR.now;have h5:=hcc 0 _ rfl;have HE0:=hid h5;clear h5;have h5:=hcc 1 _ rfl;have HE1:=hid h5;clear h5;have HR1:=hid hr1;clear hr1;have HR2:=hid hr2;clear hr2;clear hcc hcw hRR hcl hx;go_wp2_with fail;clear g0;refine qD 18 (by kernel_rfl) [Is ?vT0,Is (.slice vo k vc),Is ?vT2,Is (.slice (some ⟨b,off,none⟩) nt ct),Is (.int .i64 k),Is ?vT5,Is ?vT6,Is (.slice a1 m1 k1),jW 3 .i64 wr.heap.size (y1.take 34),Is ?vT9,Is (.slice (some ⟨b,off,none⟩) nt ct),Is (.int .i64 k),Is ?vT12,Is ?vT13,Is (.slice a2 m2 k2),jW 3 .i64 wr.heap.size (y2.take 3),qE1 wr.heap.size 2 TyR (vE ⟨y1,y2⟩),qCh wr.heap.size 2 TyR (vE ⟨y1,y2⟩)] _ rfl (by kernel_rfl) rfl (by kernel_rfl) ?hopT ?hstT ?hendT
     case hopT =>
      refine ⟨rq _ _ _ [(3,.pointer (some ⟨q,0,none⟩))] ⟨⟨by kernel_rfl,rfl⟩,trivial⟩ ?_,?_⟩
      ·intro a w1 hC e3;refine Or.inl ⟨_,?_,rfl⟩;go_simp;rfl
      refine ⟨rq _ _ _ [] trivial ?_,?_⟩
      ·intro a w1 hC (h0:a.tmps.getD 30 undef=_);refine Or.inl ⟨.slice vo k vc,?_,rfl⟩;have f0:=(HC.out.below (qW5 _) hC).cell 0 _ rfl;go_simp
      refine ⟨rq _ _ _ [(1,.pointer (some ⟨p,0,none⟩))] ⟨⟨by kernel_rfl,rfl⟩,trivial⟩ ?_,?_⟩
      ·intro a w1 hC e1;refine Or.inl ⟨_,?_,rfl⟩;go_simp;rfl
      refine ⟨rq _ _ _ [] trivial ?_,?_⟩
      ·intro a w1 hC (h2:a.tmps.getD 32 undef=_);refine Or.inl ⟨.slice (some ⟨b,off,none⟩) nt ct,?_,rfl⟩;have f0:=(HX.out.below (qW5 _) hC).cell 0 _ rfl;go_simp
      refine ⟨rq _ _ _ [(4,.int .i64 k)] ⟨⟨by kernel_rfl,rfl⟩,trivial⟩ ?_,?_⟩
      ·intro a w1 hC e4;refine Or.inl ⟨.int .i64 k,?_,rfl⟩;go_simp
      refine ⟨rq _ _ _ [] trivial ?_,?_⟩
      ·intro a w1 hC (h3:a.tmps.getD 33 undef=_) (h4:a.tmps.getD 34 undef=_);refine Or.inl ⟨_,?_,rfl⟩;go_simp
       first | (go_bits;rfl) | rfl | (rw [if_pos (by omega)])
      refine ⟨rq _ _ _ [] trivial ?_,?_⟩
      ·intro a w1 hC (h5:a.tmps.getD 35 undef=_);refine Or.inl ⟨_,?_,rfl⟩;go_simp;rfl
      refine ⟨rq _ _ _ [] trivial ?_,?_⟩
      ·intro a w1 hC (h6:a.tmps.getD 36 undef=_);refine Or.inl ⟨.slice a1 m1 k1,?_,rfl⟩;have f0:=(hC.cell (p:=⟨b,off + k * 2 + 0,none⟩) hbr).trans HE0.out
       try simp only [qXd] at f0
       go_simp
      refine ⟨rq _ _ _ [] trivial ?_,?_⟩
      ·intro a w1 hC (h7:a.tmps.getD 37 undef=_);refine Or.inr (Or.inl ⟨18,#[.slice a1 m1 k1,.int .i64 34],?_,?_⟩)
       ·go_simp
       ·refine (qC1 34 34 rfl (by decide) a1 m1 k1 y1 w1 (HR1.out.below (HBW.out.trans (hC.mono HBW.out.size)))).mono ?_;rintro e w2 ⟨vv,rfl,hown,hbel⟩;exact ⟨_,rfl,hown.lift hC.size,hbel⟩
      refine ⟨rq _ _ _ [(1,.pointer (some ⟨p,0,none⟩))] ⟨⟨by kernel_rfl,rfl⟩,trivial⟩ ?_,?_⟩
      ·intro a w1 hC e1;refine Or.inl ⟨_,?_,rfl⟩;go_simp;rfl
      refine ⟨rq _ _ _ [] trivial ?_,?_⟩
      ·intro a w1 hC (h9:a.tmps.getD 39 undef=_);refine Or.inl ⟨.slice (some ⟨b,off,none⟩) nt ct,?_,rfl⟩;have f0:=(HX.out.below (qW5 _) hC).cell 0 _ rfl;go_simp
      refine ⟨rq _ _ _ [(4,.int .i64 k)] ⟨⟨by kernel_rfl,rfl⟩,trivial⟩ ?_,?_⟩
      ·intro a w1 hC e4;refine Or.inl ⟨.int .i64 k,?_,rfl⟩;go_simp
      refine ⟨rq _ _ _ [] trivial ?_,?_⟩
      ·intro a w1 hC (h10:a.tmps.getD 40 undef=_) (h11:a.tmps.getD 41 undef=_);refine Or.inl ⟨_,?_,rfl⟩;go_simp
       first | (go_bits;rfl) | rfl | (rw [if_pos (by omega)])
      refine ⟨rq _ _ _ [] trivial ?_,?_⟩
      ·intro a w1 hC (h12:a.tmps.getD 42 undef=_);refine Or.inl ⟨_,?_,rfl⟩;go_simp;rfl
      refine ⟨rq _ _ _ [] trivial ?_,?_⟩
      ·intro a w1 hC (h13:a.tmps.getD 43 undef=_);refine Or.inl ⟨.slice a2 m2 k2,?_,rfl⟩;have f0:=(hC.cell (p:=⟨b,off + k * 2 + 1,none⟩) hbr).trans HE1.out
       try simp only [qXd] at f0
       go_simp
      refine ⟨rq _ _ _ [] trivial ?_,?_⟩
      ·intro a w1 hC (h14:a.tmps.getD 44 undef=_) h8;refine Or.inr (Or.inl ⟨18,#[.slice a2 m2 k2,.int .i64 3],?_,?_⟩)
       ·go_simp
       ·refine (qC1 3 3 rfl (by decide) a2 m2 k2 y2 w1 (HR2.out.below (HBW.out.trans (hC.mono HBW.out.size)))).mono ?_;rintro e w2 ⟨vv,rfl,hown,hbel⟩;exact ⟨_,rfl,hown.lift hC.size,hbel⟩
      refine ⟨rq _ _ _ [] trivial ?_,?_⟩
      ·intro a w1 hC h8 h15;obtain ⟨o1,u1,e1,hx1⟩:=Own.bx h8;have e1:a.tmps.getD 38 undef=_:=e1;rw [qXn] at e1;obtain ⟨o2,u2,e2,hx2⟩:=Own.bx h15;have e2:a.tmps.getD 45 undef=_:=e2;rw [qXn] at e2;refine Or.inl ⟨.agg #[.slice o1 _ u1,.slice o2 _ u2],?_,⟨[.slice o1 _ u1,.slice o2 _ u2],rfl,rfl,hx1.imp2 hx2 fun w a b=>⟨_,_,_,_,_,_,rfl,a,b⟩⟩⟩;go_simp
      refine ⟨rq _ _ _ [] trivial ?_,?_⟩
      ·intro a w1 hC h16;obtain ⟨cs,e,_,hx⟩:=h16;obtain ⟨o1,n1,u1,o2,n2,u2,rfl,_,_⟩:=hx.now;have e:a.tmps.getD 46 undef=.agg #[.slice o1 n1 u1,.slice o2 n2 u2]:=e;rw [qXn] at e;refine Or.inr (Or.inr ⟨.slice (some ⟨w1.heap.size,0,none⟩) 1 1,w1.alloc (.cells #[.slice o1 n1 u1,.slice o2 n2 u2] 53),?_,qCh.mk (cs:=[.slice o1 n1 u1,.slice o2 n2 u2]) rfl (by simp [Value.oneCell']) hx,Bl.alloc (Bl.refl _) _⟩);go_simp
      exact trivial
     case hstT=>repeat (first | exact trivial | refine ⟨qB.is _,?_⟩ | refine ⟨qB.own _ _ _ _,?_⟩ | refine ⟨qB.ag,?_⟩ | refine ⟨qB.nw,?_⟩)
     case hendT =>
      intro w1 hC;rintro _ rfl _ rfl _ rfl _ rfl _ rfl _ rfl _ rfl _ rfl;intro x8 h8;rintro _ rfl _ rfl _ rfl _ rfl _ rfl _ rfl;intro x15 h15;intro x16 h16;intro x17 h17;obtain ⟨qn,csn,rfl,hnl,hno,hnc,hnx⟩:=h17;simp only [xV,Act.put,qXj,qXp,qXo,qXm,qXv];have hs1:=hC.size
      go_wp2_with (at_builtin;apply jF)
      refine hid ?_;refine qQ rfl (.tmp 31) (.tmp 47) 22 rfl _ _ Tryz.underlying22 qR3 rfl (by decide) rfl (HO.out.below hC (qW8 _)) (qXk hsr hs1) qn csn rfl hnl hnc hno (vE ⟨y1,y2⟩) (hnx.more fun b hb=>⟨qXk hsr hb.1,hb.2,fun e=>by have:=(HO.out.lt b e).2;omega⟩) (by rw [HLL.out];omega) (by rw [HLL.out];omega) ?_;intro v2 w2 o1 o2;obtain ⟨vo2,vc2,hve2,_,_,_⟩:=o1.shape;rw [qW7,HLL.out] at hve2;obtain rfl:v2=.slice vo2 (k + 1) vc2:=hve2;obtain ⟨hb2,hc2,hp2,hs2⟩:=qAj HB.out HC.out HO.out HPR.out hpq hqS hsr hC o2 (qW5 _);have hck2:=hc2.cell 0 _ rfl;have hfk2:=hc2.fro 0 _ rfl
      have hq2:q < w2.heap.size:=(by omega)
      have HE:=hid (qAk hb2 hc2 o1 hp2 hpq hqS hs2 (by rw [HZ0.out];exact qW8 _) 0 (.slice vo2 (k + 1) vc2) (by simp));clear hb2 hc2 hp2 hs2 o1 o2 hnl hno hnc hnx hC hs1;go_wp2_with fail;clear hck2 hfk2;go_roundw
      case rel =>
       obtain ⟨e1,e2,e3,e4,e5⟩:=HE.out;exact ⟨k + 1,.slice vo2 (k + 1) vc2,by omega,by omega,by go_num,hid e1,hid e2,hid (by rw [HTF.out];exact e3),hid e4,hid e5⟩
      case measure=>simp [intOf];omega
    ·
     have htk:(T.take 18).map vE=(T.take k).map vE:=by
      rcases Nat.lt_or_ge k 18 with h3 | h3
      ·have h4:¬ k < nt:=fun h=>hk ⟨h,h3⟩
       rw [qW9 (by rw [HLt.out];omega),qW9 (by rw [HLt.out];omega)]
      ·rw [show k=18 by omega]
     obtain ⟨ao,cap,hsl,hrx⟩:=HO.out.bx;rw [HLL.out] at hsl hrx;obtain ⟨rfl,rfl⟩:vo=ao /\ vc=cap:=by simpa using hsl
     rw [<- htk] at hrx;have HPN:Hid (Bx (fun b=>p + 2 <= b /\ b < wr.heap.size /\ b ≠ q) wr (fun w=>Φ w /\ RdG 2 TyR w vo k vc ((T.take 18).map vE))):=hid ((HPR.out.more fun b hb=>⟨hb.1,qXr hb.2.1 hsr,hb.2.2⟩).imp2 (hrx.more fun b hb=>⟨by omega,hb.2,by omega⟩) fun w a b=>⟨a,b⟩);clear htk hrx hsl;rcases Nat.lt_or_ge k nt with h3 | h3
     ·have h4:¬ k < 18:=fun h=>hk ⟨h3,h⟩
      clear hk;go_wp2_with fail;go_meet
      case rel=>exact ⟨k,vo,k,vc,rfl,HB,HC,HPN,hid (by omega)⟩
     ·clear hk;go_wp2_with fail;go_meet
      case rel=>exact ⟨k,vo,k,vc,rfl,HB,HC,HPN,hid (by omega)⟩
  case rest =>
   obtain ⟨kk,pt,mt,rt,rfl,HB,HC,HPV,HQS⟩:=hcut
   obtain ⟨ws,rfl⟩:∃ wo:World,wo=wc:=⟨_,rfl⟩
   obtain ⟨Φ,HFt,HPV⟩:=qB6 HPV;go_upto_block 2 with fail;go_cut [5] from 50 to 86 (fun u wc=>∃ (kk:Nat) (pi:Option Addr) (mi ri:Nat),u=.int .i64 kk /\ Hid (Below (p + 2) w0 wc) /\ Hid (Cel wc q [.slice pt mt rt,.slice pi mi ri,.slice pf mf rf,.bool th,.int .i64 tm,.int .i64 tx,.bool mh,.int .i64 mm,.int .i64 mx,.slice none 0 0,.slice none 0 0,.slice none 0 0,.slice none 0 0,.slice none 0 0]) /\ Hid (Bx (fun b=>p + 2 <= b /\ b < wc.heap.size /\ b ≠ q) wc (fun w=>Φ w /\ RdG 3 ImR w pi mi ri ((I.take 18).map xX))) /\ Hid (q < wc.heap.size))
   case first =>
    obtain ⟨S,hS⟩:∃ S,ws.heap.size=S:=⟨_,rfl⟩
    have hqS:q < S:=(by rw [<- hS];exact HQS.out)
    have HPS:Hid (Bx (fun b=>p + 2 <= b /\ b < S /\ b ≠ q) ws Φ):=hid (by rw [<- hS];exact HPV.out);have HSS:Hid (S <= ws.heap.size):=hid (Nat.le_of_eq hS.symm);clear hS HPV;go_wp2_with fail;go_loopw [5] (fun i wr=>∃ (k:Nat) (v:Value),k <= ni /\ k <= 18 /\ i=.int .i64 k /\ Hid (Below (p + 2) w0 wr) /\ Hid (Cel wr q [.slice pt mt rt,v,.slice pf mf rf,.bool th,.int .i64 tm,.int .i64 tx,.bool mh,.int .i64 mm,.int .i64 mx,.slice none 0 0,.slice none 0 0,.slice none 0 0,.slice none 0 0,.slice none 0 0]) /\ Hid (OwnG 62 3 ImR S wr v ((I.take k).map xX)) /\ Hid (Bx (fun b=>p + 2 <= b /\ b < S /\ b ≠ q) wr Φ) /\ Hid (S <= wr.heap.size)) (fun i _=>18 - (intOf i).toNat)
    case atStart=>exact ⟨0,_,qXf _,qXf _,rfl,HB,HC,hid (by simpa using OwnG.nil _ _ _ _ _),HPS,HSS⟩
    case round =>
     clear HB HC HPS HSS HQS;obtain ⟨k,v,hkn,hk18,rfl,HB,HC,HO,HPR,HSR⟩:=hrel;have hsr:=HSR.out;obtain ⟨vo,vc,rfl,hsh1,hsh2,_⟩:=HO.out.shape;have hll:((I.take k).map xX).length=k:=by simp [HLi.out];omega
     rw [hll] at HO HC hsh1;have HLL:=hid hll;clear hll;have HX:=hid (HX0.out.keep (show p < p + 2 by omega) HB.out);have g0:=HX.out.cell 1 _ rfl
     have hpr:p < wr.heap.size:=(by omega)
     by_cases hk:k < ni /\ k < 18
     ·
      obtain ⟨hk,hk3⟩:=hk
      obtain ⟨x,hx⟩:∃ x,I[k]?=some x:=⟨I[k]'(by rw [HLi.out];omega),qW6 (by rw [HLi.out];omega)⟩
      have htf:(I.take (k + 1)).map xX=(I.take k).map xX ++ [xX x]:=by
       rw [qXy,hx];simp
      have HTF:=hid htf;clear htf;obtain ⟨b,off,cs,rfl,hcl,hRR,hcw⟩:=RdG.elem HQi.out hx;have hbw:b < w.heap.size:=qXc w _ (hcw 0 cs[0] (qW6 (by omega)));have hbp:b < p:=by have:=HP.out;omega
      have HBW:Hid (Below w.heap.size w wr):=hid (HB0.out.trans (HB.out.mono (by rw [HP.out];omega)));have hcc:=fun j v hj=>(HBW.out.cell (p:=⟨b,off + k * 3 + j,none⟩) hbw).trans (hcw j v hj)
      have hbr:b < wr.heap.size:=(by omega)
      obtain ⟨y1,y2,y3⟩:=x;obtain rfl:=hRR.now;have h5:=hcc 0 _ rfl;have HE0:=hid h5;clear h5;have h5:=hcc 1 _ rfl;have HE1:=hid h5;clear h5;have h5:=hcc 2 _ rfl;have HE2:=hid h5;clear h5;clear hcc hcw hRR hcl hx;go_wp2_with fail;clear g0;refine qD 24 (by kernel_rfl) (Is ?vI0 :: Is (.slice vo k vc) :: Is ?vI2 :: Is (.slice (some ⟨b,off,none⟩) ni ci) :: Is (.int .i64 k) :: Is ?vI5 :: Is ?vI6 :: Is (.string y1) :: Is (.string (j5 y1)) :: Is ?vI9 :: Is (.slice (some ⟨b,off,none⟩) ni ci) :: Is (.int .i64 k) :: Is ?vI12 :: Is ?vI13 :: Is (.string y2) :: Is (.string (j5 y2)) :: Is ?vI16 :: Is (.slice (some ⟨b,off,none⟩) ni ci) :: Is (.int .i64 k) :: Is ?vI19 :: Is ?vI20 :: Is (.int .i64 y3) :: qE1 wr.heap.size 3 ImR (xX ⟨y1,y2,y3⟩) :: qCh wr.heap.size 3 ImR (xX ⟨y1,y2,y3⟩) :: []) _ rfl (by kernel_rfl) rfl (by kernel_rfl) ?hopI ?hstI ?hendI
      case hopI =>
       refine ⟨rq _ _ _ [(3,.pointer (some ⟨q,0,none⟩))] ⟨⟨by kernel_rfl,rfl⟩,trivial⟩ ?_,?_⟩
       ·intro a w1 hC e3;refine Or.inl ⟨_,?_,rfl⟩;go_simp;rfl
       refine ⟨rq _ _ _ [] trivial ?_,?_⟩
       ·intro a w1 hC (h0:a.tmps.getD 61 undef=_);refine Or.inl ⟨.slice vo k vc,?_,rfl⟩;have f0:=(HC.out.below (qW5 _) hC).cell 1 _ rfl;go_simp
       refine ⟨rq _ _ _ [(1,.pointer (some ⟨p,0,none⟩))] ⟨⟨by kernel_rfl,rfl⟩,trivial⟩ ?_,?_⟩
       ·intro a w1 hC e1;refine Or.inl ⟨_,?_,rfl⟩;go_simp;rfl
       refine ⟨rq _ _ _ [] trivial ?_,?_⟩
       ·intro a w1 hC (h2:a.tmps.getD 63 undef=_);refine Or.inl ⟨.slice (some ⟨b,off,none⟩) ni ci,?_,rfl⟩;have f0:=(HX.out.below (qW5 _) hC).cell 1 _ rfl;go_simp
       refine ⟨rq _ _ _ [(5,.int .i64 k)] ⟨⟨by kernel_rfl,rfl⟩,trivial⟩ ?_,?_⟩
       ·intro a w1 hC e5;refine Or.inl ⟨.int .i64 k,?_,rfl⟩;go_simp
       refine ⟨rq _ _ _ [] trivial ?_,?_⟩
       ·intro a w1 hC (h3:a.tmps.getD 64 undef=_) (h4:a.tmps.getD 65 undef=_);refine Or.inl ⟨_,?_,rfl⟩;go_simp
        first | (go_bits;rfl) | rfl | (rw [if_pos (by omega)])
       refine ⟨rq _ _ _ [] trivial ?_,?_⟩
       ·intro a w1 hC (h5:a.tmps.getD 66 undef=_);refine Or.inl ⟨_,?_,rfl⟩;go_simp;rfl
       refine ⟨rq _ _ _ [] trivial ?_,?_⟩
       ·intro a w1 hC (h6:a.tmps.getD 67 undef=_);refine Or.inl ⟨.string y1,?_,rfl⟩;have f0:=(hC.cell (p:=⟨b,off + k * 3 + 0,none⟩) hbr).trans HE0.out
        try simp only [qXd] at f0
        go_simp
       refine ⟨rq _ _ _ [] trivial ?_,?_⟩
       ·intro a w1 hC (h7:a.tmps.getD 68 undef=_);refine Or.inr (Or.inl ⟨19,#[.string y1],?_,?_⟩)
        ·go_simp
        ·refine (qBo y1 w1).mono ?_;rintro e w2 ⟨rfl,rfl⟩;exact ⟨_,rfl,rfl,qXh _ _⟩
       refine ⟨rq _ _ _ [(1,.pointer (some ⟨p,0,none⟩))] ⟨⟨by kernel_rfl,rfl⟩,trivial⟩ ?_,?_⟩
       ·intro a w1 hC e1;refine Or.inl ⟨_,?_,rfl⟩;go_simp;rfl
       refine ⟨rq _ _ _ [] trivial ?_,?_⟩
       ·intro a w1 hC (h9:a.tmps.getD 70 undef=_);refine Or.inl ⟨.slice (some ⟨b,off,none⟩) ni ci,?_,rfl⟩;have f0:=(HX.out.below (qW5 _) hC).cell 1 _ rfl;go_simp
       refine ⟨rq _ _ _ [(5,.int .i64 k)] ⟨⟨by kernel_rfl,rfl⟩,trivial⟩ ?_,?_⟩
       ·intro a w1 hC e5;refine Or.inl ⟨.int .i64 k,?_,rfl⟩;go_simp
       refine ⟨rq _ _ _ [] trivial ?_,?_⟩
       ·intro a w1 hC (h10:a.tmps.getD 71 undef=_) (h11:a.tmps.getD 72 undef=_);refine Or.inl ⟨_,?_,rfl⟩;go_simp
        first | (go_bits;rfl) | rfl | (rw [if_pos (by omega)])
       refine ⟨rq _ _ _ [] trivial ?_,?_⟩
       ·intro a w1 hC (h12:a.tmps.getD 73 undef=_);refine Or.inl ⟨_,?_,rfl⟩;go_simp;rfl
       refine ⟨rq _ _ _ [] trivial ?_,?_⟩
       ·intro a w1 hC (h13:a.tmps.getD 74 undef=_);refine Or.inl ⟨.string y2,?_,rfl⟩;have f0:=(hC.cell (p:=⟨b,off + k * 3 + 1,none⟩) hbr).trans HE1.out
        try simp only [qXd] at f0
        go_simp
       refine ⟨rq _ _ _ [] trivial ?_,?_⟩
       ·intro a w1 hC (h14:a.tmps.getD 75 undef=_) (h8:a.tmps.getD 69 undef=_);refine Or.inr (Or.inl ⟨19,#[.string y2],?_,?_⟩)
        ·go_simp
        ·refine (qBo y2 w1).mono ?_;rintro e w2 ⟨rfl,rfl⟩;exact ⟨_,rfl,rfl,qXh _ _⟩
       refine ⟨rq _ _ _ [(1,.pointer (some ⟨p,0,none⟩))] ⟨⟨by kernel_rfl,rfl⟩,trivial⟩ ?_,?_⟩
       ·intro a w1 hC e1;refine Or.inl ⟨_,?_,rfl⟩;go_simp;rfl
       refine ⟨rq _ _ _ [] trivial ?_,?_⟩
       ·intro a w1 hC (h16:a.tmps.getD 77 undef=_);refine Or.inl ⟨.slice (some ⟨b,off,none⟩) ni ci,?_,rfl⟩;have f0:=(HX.out.below (qW5 _) hC).cell 1 _ rfl;go_simp
       refine ⟨rq _ _ _ [(5,.int .i64 k)] ⟨⟨by kernel_rfl,rfl⟩,trivial⟩ ?_,?_⟩
       ·intro a w1 hC e5;refine Or.inl ⟨.int .i64 k,?_,rfl⟩;go_simp
       refine ⟨rq _ _ _ [] trivial ?_,?_⟩
       ·intro a w1 hC (h17:a.tmps.getD 78 undef=_) (h18:a.tmps.getD 79 undef=_);refine Or.inl ⟨_,?_,rfl⟩;go_simp
        first | (go_bits;rfl) | rfl | (rw [if_pos (by omega)])
       refine ⟨rq _ _ _ [] trivial ?_,?_⟩
       ·intro a w1 hC (h19:a.tmps.getD 80 undef=_);refine Or.inl ⟨_,?_,rfl⟩;go_simp;rfl
       refine ⟨rq _ _ _ [] trivial ?_,?_⟩
       ·intro a w1 hC (h20:a.tmps.getD 81 undef=_);refine Or.inl ⟨.int .i64 y3,?_,rfl⟩;have f0:=(hC.cell (p:=⟨b,off + k * 3 + 2,none⟩) hbr).trans HE2.out
        try simp only [qXd] at f0
        go_simp
       refine ⟨rq _ _ _ [] trivial ?_,?_⟩
       ·intro a w1 hC (h8:a.tmps.getD 69 undef=_) (h15:a.tmps.getD 76 undef=_) (h21:a.tmps.getD 82 undef=_)
        have h8z:a.tmps[69]?.getD undef=.string (j5 y1):=(by simpa using h8)
        have h15z:a.tmps[76]?.getD undef=.string (j5 y2):=(by simpa using h15)
        have h21z:a.tmps[82]?.getD undef=.int .i64 y3:=(by simpa using h21)
        refine Or.inl ⟨.agg #[.string (j5 y1),.string (j5 y2),.int .i64 y3],?_,⟨[.string (j5 y1),.string (j5 y2),.int .i64 y3],rfl,rfl,fun _ _=>rfl⟩⟩;go_simp
       refine ⟨rq _ _ _ [] trivial ?_,?_⟩
       ·intro a w1 hC h22;obtain ⟨cs,e,_,hx⟩:=h22;obtain rfl:=hx.now;have e:a.tmps.getD 83 undef=.agg #[.string (j5 y1),.string (j5 y2),.int .i64 y3]:=e;rw [qXn] at e;refine Or.inr (Or.inr ⟨.slice (some ⟨w1.heap.size,0,none⟩) 1 1,w1.alloc (.cells #[.string (j5 y1),.string (j5 y2),.int .i64 y3] 62),?_,qCh.mk (cs:=[.string (j5 y1),.string (j5 y2),.int .i64 y3]) rfl (by simp [Value.oneCell']) hx,Bl.alloc (Bl.refl _) _⟩);go_simp
       exact trivial
      case hstI=>repeat (first | exact trivial | refine ⟨qB.is _,?_⟩ | refine ⟨qB.ag,?_⟩ | refine ⟨qB.nw,?_⟩)
      case hendI =>
       intro w1 hC;rintro _ rfl _ rfl _ rfl _ rfl _ rfl _ rfl _ rfl _ rfl _ rfl _ rfl _ rfl _ rfl _ rfl _ rfl _ rfl _ rfl _ rfl _ rfl _ rfl _ rfl _ rfl _ rfl;intro x22 h22;intro x23 h23;obtain ⟨qn,csn,rfl,hnl,hno,hnc,hnx⟩:=h23;simp only [xV,Act.put,qXj,qXp,qXo,qXm,qXv];have hs1:=hC.size
       go_wp2_with (at_builtin;apply jF)
       refine hid ?_;refine qQ rfl (.tmp 62) (.tmp 84) 23 rfl _ _ Tryz.underlying23 qR4 rfl (by decide) rfl (HO.out.below hC (qW8 _)) (qXk hsr hs1) qn csn rfl hnl hnc hno (xX ⟨y1,y2,y3⟩) (hnx.more fun b hb=>⟨qXk hsr hb.1,hb.2,fun e=>by have:=(HO.out.lt b e).2;omega⟩) (by rw [HLL.out];omega) (by rw [HLL.out];omega) ?_;intro v2 w2 o1 o2;obtain ⟨vo2,vc2,hve2,_,_,_⟩:=o1.shape;rw [qW7,HLL.out] at hve2;obtain rfl:v2=.slice vo2 (k + 1) vc2:=hve2;obtain ⟨hb2,hc2,hp2,hs2⟩:=qAj HB.out HC.out HO.out HPR.out hpq hqS hsr hC o2 (qW5 _);have hck2:=hc2.cell 1 _ rfl;have hfk2:=hc2.fro 1 _ rfl
       have hq2:q < w2.heap.size:=(by omega)
       have HE:=hid (qAk hb2 hc2 o1 hp2 hpq hqS hs2 (by rw [HZ0.out];exact qW8 _) 1 (.slice vo2 (k + 1) vc2) (by simp));clear hb2 hc2 hp2 hs2 o1 o2 hnl hno hnc hnx hC hs1;go_wp2_with fail;clear hck2 hfk2;go_roundw
       case rel =>
        obtain ⟨e1,e2,e3,e4,e5⟩:=HE.out;exact ⟨k + 1,.slice vo2 (k + 1) vc2,by omega,by omega,by go_num,hid e1,hid e2,hid (by rw [HTF.out];exact e3),hid e4,hid e5⟩
       case measure=>simp [intOf];omega
     ·
      have htk:(I.take 18).map xX=(I.take k).map xX:=by
       rcases Nat.lt_or_ge k 18 with h3 | h3
       ·have h4:¬ k < ni:=fun h=>hk ⟨h,h3⟩
        rw [qW9 (by rw [HLi.out];omega),qW9 (by rw [HLi.out];omega)]
       ·rw [show k=18 by omega]
      obtain ⟨ao,cap,hsl,hrx⟩:=HO.out.bx;rw [HLL.out] at hsl hrx;obtain ⟨rfl,rfl⟩:vo=ao /\ vc=cap:=by simpa using hsl
      rw [<- htk] at hrx;have HPN:Hid (Bx (fun b=>p + 2 <= b /\ b < wr.heap.size /\ b ≠ q) wr (fun w=>Φ w /\ RdG 3 ImR w vo k vc ((I.take 18).map xX))):=hid ((HPR.out.more fun b hb=>⟨hb.1,qXr hb.2.1 hsr,hb.2.2⟩).imp2 (hrx.more fun b hb=>⟨by omega,hb.2,by omega⟩) fun w a b=>⟨a,b⟩);clear htk hrx hsl;rcases Nat.lt_or_ge k ni with h3 | h3
      ·have h4:¬ k < 18:=fun h=>hk ⟨h3,h⟩
       clear hk;go_wp2_with fail;go_meet
       case rel=>exact ⟨k,vo,k,vc,rfl,HB,HC,HPN,hid (by omega)⟩
      ·clear hk;go_wp2_with fail;go_meet
       case rel=>exact ⟨k,vo,k,vc,rfl,HB,HC,HPN,hid (by omega)⟩
   case rest =>
    obtain ⟨kk,pi,mi,ri,rfl,HB,HC,HPV,HQS⟩:=hcut
    obtain ⟨ws,rfl⟩:∃ wo:World,wo=wc:=⟨_,rfl⟩
    obtain ⟨Φ,HFi,HPV⟩:=qB6 HPV;go_upto_block 4 with fail;go_cut [6] from 87 to 107 (fun u wc=>∃ (kk:Nat) (pg:Option Addr) (mg rg:Nat),u=.int .i64 kk /\ Hid (Below (p + 2) w0 wc) /\ Hid (Cel wc q [.slice pt mt rt,.slice pi mi ri,.slice pf mf rf,.bool th,.int .i64 tm,.int .i64 tx,.bool mh,.int .i64 mm,.int .i64 mx,.slice pg mg rg,.slice none 0 0,.slice none 0 0,.slice none 0 0,.slice none 0 0]) /\ Hid (Bx (fun b=>p + 2 <= b /\ b < wc.heap.size /\ b ≠ q) wc (fun w=>Φ w /\ RdG 3 GlR w pg mg rg (G.take 18))) /\ Hid (q < wc.heap.size))
    case first =>
     obtain ⟨S,hS⟩:∃ S,ws.heap.size=S:=⟨_,rfl⟩
     have hqS:q < S:=(by rw [<- hS];exact HQS.out)
     have HPS:Hid (Bx (fun b=>p + 2 <= b /\ b < S /\ b ≠ q) ws Φ):=hid (by rw [<- hS];exact HPV.out);have HSS:Hid (S <= ws.heap.size):=hid (Nat.le_of_eq hS.symm);clear hS HPV;go_wp2_with fail;go_loopw [6] (fun i wr=>∃ (k:Nat) (v:Value),k <= ng /\ k <= 18 /\ i=.int .i64 k /\ Hid (Below (p + 2) w0 wr) /\ Hid (Cel wr q [.slice pt mt rt,.slice pi mi ri,.slice pf mf rf,.bool th,.int .i64 tm,.int .i64 tx,.bool mh,.int .i64 mm,.int .i64 mx,v,.slice none 0 0,.slice none 0 0,.slice none 0 0,.slice none 0 0]) /\ Hid (OwnG 58 3 GlR S wr v (G.take k)) /\ Hid (Bx (fun b=>p + 2 <= b /\ b < S /\ b ≠ q) wr Φ) /\ Hid (S <= wr.heap.size)) (fun i _=>18 - (intOf i).toNat)
     case atStart=>exact ⟨0,_,qXf _,qXf _,rfl,HB,HC,hid (by simpa using OwnG.nil _ _ _ _ _),HPS,HSS⟩
     case round =>
      clear HB HC HPS HSS HQS;obtain ⟨k,v,hkn,hk18,rfl,HB,HC,HO,HPR,HSR⟩:=hrel;have hsr:=HSR.out;obtain ⟨vo,vc,rfl,hsh1,hsh2,_⟩:=HO.out.shape;have hll:(G.take k).length=k:=by simp [HLg.out];omega
      rw [hll] at HO HC hsh1;have HLL:=hid hll;clear hll;have HX:=hid (HX0.out.keep (show p < p + 2 by omega) HB.out);have g0:=HX.out.cell 9 _ rfl
      have hpr:p < wr.heap.size:=(by omega)
      by_cases hk:k < ng /\ k < 18
      ·
       obtain ⟨hk,hk3⟩:=hk
       obtain ⟨x,hx⟩:∃ x,G[k]?=some x:=⟨G[k]'(by rw [HLg.out];omega),qW6 (by rw [HLg.out];omega)⟩
       have htf:G.take (k + 1)=G.take k ++ [x]:=by
        rw [qXy,hx];rfl
       have HTF:=hid htf;clear htf;obtain ⟨b,off,cs,rfl,hcl,hRR,hcw⟩:=RdG.elem HQg.out hx;have hbw:b < w.heap.size:=qXc w _ (hcw 0 cs[0] (qW6 (by omega)));have hbp:b < p:=by have:=HP.out;omega
       have HBW:Hid (Below w.heap.size w wr):=hid (HB0.out.trans (HB.out.mono (by rw [HP.out];omega)));have hcc:=fun j v hj=>(HBW.out.cell (p:=⟨b,off + k * 3 + j,none⟩) hbw).trans (hcw j v hj)
       have hbr:b < wr.heap.size:=(by omega)
       obtain ⟨y1,y2,y3⟩:=x;obtain ⟨rfl,hlo,hhi⟩:=hRR.now;have h5:=hcc 0 _ rfl;have HE0:=hid h5;clear h5;have h5:=hcc 1 _ rfl;have HE1:=hid h5;clear h5;have h5:=hcc 2 _ rfl;have HE2:=hid h5;clear h5;have HLH:=hid (And.intro hlo hhi);clear hlo hhi;clear hcc hcw hRR hcl hx;go_wp2_with fail;clear g0;refine qD 8 (by kernel_rfl) [Is ?vG0,Is (.slice vo k vc),Is ?vG2,Is (.slice (some ⟨b,off,none⟩) ng cg),Is (.int .i64 k),Is ?vG5,Is (.agg #[.bool y1,.int .i64 y2,.int .i64 y3]),qCh wr.heap.size 3 GlR (⟨y1,y2,y3⟩:MGl)] _ rfl (by kernel_rfl) rfl (by kernel_rfl) ?hopG ?hstG ?hendG
       case hopG =>
        refine ⟨rq _ _ _ [(3,.pointer (some ⟨q,0,none⟩))] ⟨⟨by kernel_rfl,rfl⟩,trivial⟩ ?_,?_⟩
        ·intro a w1 hC e3;refine Or.inl ⟨_,?_,rfl⟩;go_simp;rfl
        refine ⟨rq _ _ _ [] trivial ?_,?_⟩
        ·intro a w1 hC (h0:a.tmps.getD 98 undef=_);refine Or.inl ⟨.slice vo k vc,?_,rfl⟩;have f0:=(HC.out.below (qW5 _) hC).cell 9 _ rfl;go_simp
        refine ⟨rq _ _ _ [(1,.pointer (some ⟨p,0,none⟩))] ⟨⟨by kernel_rfl,rfl⟩,trivial⟩ ?_,?_⟩
        ·intro a w1 hC e1;refine Or.inl ⟨_,?_,rfl⟩;go_simp;rfl
        refine ⟨rq _ _ _ [] trivial ?_,?_⟩
        ·intro a w1 hC (h2:a.tmps.getD 100 undef=_);refine Or.inl ⟨.slice (some ⟨b,off,none⟩) ng cg,?_,rfl⟩;have f0:=(HX.out.below (qW5 _) hC).cell 9 _ rfl;go_simp
        refine ⟨rq _ _ _ [(6,.int .i64 k)] ⟨⟨by kernel_rfl,rfl⟩,trivial⟩ ?_,?_⟩
        ·intro a w1 hC e6;refine Or.inl ⟨.int .i64 k,?_,rfl⟩;go_simp
        refine ⟨rq _ _ _ [] trivial ?_,?_⟩
        ·intro a w1 hC (h3:a.tmps.getD 101 undef=_) (h4:a.tmps.getD 102 undef=_);refine Or.inl ⟨_,?_,rfl⟩;go_simp
         first | (go_bits;rfl) | rfl | (rw [if_pos (by omega)])
        refine ⟨rq _ _ _ [] trivial ?_,?_⟩
        ·intro a w1 hC (h5:a.tmps.getD 103 undef=_);refine Or.inl ⟨.agg #[.bool y1,.int .i64 y2,.int .i64 y3],?_,rfl⟩;have f0:=(hC.cell (p:=⟨b,off + k * 3 + 0,none⟩) hbr).trans HE0.out;have f1:=(hC.cell (p:=⟨b,off + k * 3 + 1,none⟩) hbr).trans HE1.out;have f2:=(hC.cell (p:=⟨b,off + k * 3 + 2,none⟩) hbr).trans HE2.out
         try simp only [qXd] at f0
         go_simp
        refine ⟨rq _ _ _ [] trivial ?_,?_⟩
        ·intro a w1 hC (h6:a.tmps.getD 104 undef=_);rw [qXn] at h6;refine Or.inr (Or.inr ⟨.slice (some ⟨w1.heap.size,0,none⟩) 1 1,w1.alloc (.cells #[.bool y1,.int .i64 y2,.int .i64 y3] 58),?_,qCh.mk (cs:=[.bool y1,.int .i64 y2,.int .i64 y3]) rfl (by simp [Value.oneCell']) (fun _ _=>⟨rfl,HLH.out.1,HLH.out.2⟩),Bl.alloc (Bl.refl _) _⟩);go_simp
        exact trivial
       case hstG=>repeat (first | exact trivial | refine ⟨qB.is _,?_⟩ | refine ⟨qB.nw,?_⟩)
       case hendG =>
        intro w1 hC;rintro _ rfl _ rfl _ rfl _ rfl _ rfl _ rfl _ rfl;intro x7 h7;obtain ⟨qn,csn,rfl,hnl,hno,hnc,hnx⟩:=h7;simp only [xV,Act.put,qXj,qXp,qXo,qXm,qXv];have hs1:=hC.size
        go_wp2_with (at_builtin;apply jF)
        refine hid ?_;refine qQ rfl (.tmp 99) (.tmp 105) 27 rfl _ _ Tryz.underlying27 qR5 rfl (by decide) rfl (HO.out.below hC (qW8 _)) (qXk hsr hs1) qn csn rfl hnl hnc hno (⟨y1,y2,y3⟩:MGl) (hnx.more fun b hb=>⟨qXk hsr hb.1,hb.2,fun e=>by have:=(HO.out.lt b e).2;omega⟩) (by rw [HLL.out];omega) (by rw [HLL.out];omega) ?_;intro v2 w2 o1 o2;obtain ⟨vo2,vc2,hve2,_,_,_⟩:=o1.shape;rw [qW7,HLL.out] at hve2;obtain rfl:v2=.slice vo2 (k + 1) vc2:=hve2;obtain ⟨hb2,hc2,hp2,hs2⟩:=qAj HB.out HC.out HO.out HPR.out hpq hqS hsr hC o2 (qW5 _);have hck2:=hc2.cell 9 _ rfl;have hfk2:=hc2.fro 9 _ rfl
        have hq2:q < w2.heap.size:=(by omega)
        have HE:=hid (qAk hb2 hc2 o1 hp2 hpq hqS hs2 (by rw [HZ0.out];exact qW8 _) 9 (.slice vo2 (k + 1) vc2) (by simp));clear hb2 hc2 hp2 hs2 o1 o2 hnl hno hnc hnx hC hs1;go_wp2_with fail;clear hck2 hfk2;go_roundw
        case rel =>
         obtain ⟨e1,e2,e3,e4,e5⟩:=HE.out;exact ⟨k + 1,.slice vo2 (k + 1) vc2,by omega,by omega,by go_num,hid e1,hid e2,hid (by rw [HTF.out];exact e3),hid e4,hid e5⟩
        case measure=>simp [intOf];omega
      ·
       have htk:G.take 18=G.take k:=by
        rcases Nat.lt_or_ge k 18 with h3 | h3
        ·have h4:¬ k < ng:=fun h=>hk ⟨h,h3⟩
         rw [qW9 (by rw [HLg.out];omega),qW9 (by rw [HLg.out];omega)]
        ·rw [show k=18 by omega]
       obtain ⟨ao,cap,hsl,hrx⟩:=HO.out.bx;rw [HLL.out] at hsl hrx;obtain ⟨rfl,rfl⟩:vo=ao /\ vc=cap:=by simpa using hsl
       rw [<- htk] at hrx;have HPN:Hid (Bx (fun b=>p + 2 <= b /\ b < wr.heap.size /\ b ≠ q) wr (fun w=>Φ w /\ RdG 3 GlR w vo k vc (G.take 18))):=hid ((HPR.out.more fun b hb=>⟨hb.1,qXr hb.2.1 hsr,hb.2.2⟩).imp2 (hrx.more fun b hb=>⟨by omega,hb.2,by omega⟩) fun w a b=>⟨a,b⟩);clear htk hrx hsl;rcases Nat.lt_or_ge k ng with h3 | h3
       ·have h4:¬ k < 18:=fun h=>hk ⟨h3,h⟩
        clear hk;go_wp2_with fail;go_meet
        case rel=>exact ⟨k,vo,k,vc,rfl,HB,HC,HPN,hid (by omega)⟩
       ·clear hk;go_wp2_with fail;go_meet
        case rel=>exact ⟨k,vo,k,vc,rfl,HB,HC,HPN,hid (by omega)⟩
    case rest =>
     obtain ⟨kk,pg,mg,rg,rfl,HB,HC,HPV,HQS⟩:=hcut
     obtain ⟨ws,rfl⟩:∃ wo:World,wo=wc:=⟨_,rfl⟩
     obtain ⟨Φ,HFg,HPV⟩:=qB6 HPV;go_upto_block 6 with fail;go_cut [7] from 108 to 137 (fun u wc=>∃ (kk:Nat) (pe:Option Addr) (me re:Nat),u=.int .i64 kk /\ Hid (Below (p + 2) w0 wc) /\ Hid (Cel wc q [.slice pt mt rt,.slice pi mi ri,.slice pf mf rf,.bool th,.int .i64 tm,.int .i64 tx,.bool mh,.int .i64 mm,.int .i64 mx,.slice pg mg rg,.slice pe me re,.slice none 0 0,.slice none 0 0,.slice none 0 0]) /\ Hid (Bx (fun b=>p + 2 <= b /\ b < wc.heap.size /\ b ≠ q) wc (fun w=>Φ w /\ RdG 2 ExR w pe me re ((E.take 18).map xY))) /\ Hid (q < wc.heap.size))
     case first =>
      obtain ⟨S,hS⟩:∃ S,ws.heap.size=S:=⟨_,rfl⟩
      have hqS:q < S:=(by rw [<- hS];exact HQS.out)
      have HPS:Hid (Bx (fun b=>p + 2 <= b /\ b < S /\ b ≠ q) ws Φ):=hid (by rw [<- hS];exact HPV.out);have HSS:Hid (S <= ws.heap.size):=hid (Nat.le_of_eq hS.symm);clear hS HPV;go_wp2_with fail;go_loopw [7] (fun i wr=>∃ (k:Nat) (v:Value),k <= ne /\ k <= 18 /\ i=.int .i64 k /\ Hid (Below (p + 2) w0 wr) /\ Hid (Cel wr q [.slice pt mt rt,.slice pi mi ri,.slice pf mf rf,.bool th,.int .i64 tm,.int .i64 tx,.bool mh,.int .i64 mm,.int .i64 mx,.slice pg mg rg,v,.slice none 0 0,.slice none 0 0,.slice none 0 0]) /\ Hid (OwnG 60 2 ExR S wr v ((E.take k).map xY)) /\ Hid (Bx (fun b=>p + 2 <= b /\ b < S /\ b ≠ q) wr Φ) /\ Hid (S <= wr.heap.size)) (fun i _=>18 - (intOf i).toNat)
      case atStart=>exact ⟨0,_,qXf _,qXf _,rfl,HB,HC,hid (by simpa using OwnG.nil _ _ _ _ _),HPS,HSS⟩
      case round =>
       clear HB HC HPS HSS HQS;obtain ⟨k,v,hkn,hk18,rfl,HB,HC,HO,HPR,HSR⟩:=hrel;have hsr:=HSR.out;obtain ⟨vo,vc,rfl,hsh1,hsh2,_⟩:=HO.out.shape;have hll:((E.take k).map xY).length=k:=by simp [HLe.out];omega
       rw [hll] at HO HC hsh1;have HLL:=hid hll;clear hll;have HX:=hid (HX0.out.keep (show p < p + 2 by omega) HB.out);have g0:=HX.out.cell 10 _ rfl
       have hpr:p < wr.heap.size:=(by omega)
       by_cases hk:k < ne /\ k < 18
       ·
        obtain ⟨hk,hk3⟩:=hk
        obtain ⟨x,hx⟩:∃ x,E[k]?=some x:=⟨E[k]'(by rw [HLe.out];omega),qW6 (by rw [HLe.out];omega)⟩
        have htf:(E.take (k + 1)).map xY=(E.take k).map xY ++ [xY x]:=by
         rw [qXy,hx];simp
        have HTF:=hid htf;clear htf;obtain ⟨b,off,cs,rfl,hcl,hRR,hcw⟩:=RdG.elem HQe.out hx;have hbw:b < w.heap.size:=qXc w _ (hcw 0 cs[0] (qW6 (by omega)));have hbp:b < p:=by have:=HP.out;omega
        have HBW:Hid (Below w.heap.size w wr):=hid (HB0.out.trans (HB.out.mono (by rw [HP.out];omega)));have hcc:=fun j v hj=>(HBW.out.cell (p:=⟨b,off + k * 2 + j,none⟩) hbw).trans (hcw j v hj)
        have hbr:b < wr.heap.size:=(by omega)
        obtain ⟨y1,y2⟩:=x;obtain rfl:=hRR.now;have h5:=hcc 0 _ rfl;have HE0:=hid h5;clear h5;have h5:=hcc 1 _ rfl;have HE1:=hid h5;clear h5;clear hcc hcw hRR hcl hx;go_wp2_with fail;clear g0;refine qD 17 (by kernel_rfl) [Is ?vE0,Is (.slice vo k vc),Is ?vE2,Is (.slice (some ⟨b,off,none⟩) ne ce),Is (.int .i64 k),Is ?vE5,Is ?vE6,Is (.string y1),Is (.string (j5 y1)),Is ?vE9,Is (.slice (some ⟨b,off,none⟩) ne ce),Is (.int .i64 k),Is ?vE12,Is ?vE13,Is (.int .i64 y2),qE1 wr.heap.size 2 ExR (xY ⟨y1,y2⟩),qCh wr.heap.size 2 ExR (xY ⟨y1,y2⟩)] _ rfl (by kernel_rfl) rfl (by kernel_rfl) ?hopE ?hstE ?hendE
        case hopE =>
         refine ⟨rq _ _ _ [(3,.pointer (some ⟨q,0,none⟩))] ⟨⟨by kernel_rfl,rfl⟩,trivial⟩ ?_,?_⟩
         ·intro a w1 hC e3;refine Or.inl ⟨_,?_,rfl⟩;go_simp;rfl
         refine ⟨rq _ _ _ [] trivial ?_,?_⟩
         ·intro a w1 hC (h0:a.tmps.getD 119 undef=_);refine Or.inl ⟨.slice vo k vc,?_,rfl⟩;have f0:=(HC.out.below (qW5 _) hC).cell 10 _ rfl;go_simp
         refine ⟨rq _ _ _ [(1,.pointer (some ⟨p,0,none⟩))] ⟨⟨by kernel_rfl,rfl⟩,trivial⟩ ?_,?_⟩
         ·intro a w1 hC e1;refine Or.inl ⟨_,?_,rfl⟩;go_simp;rfl
         refine ⟨rq _ _ _ [] trivial ?_,?_⟩
         ·intro a w1 hC (h2:a.tmps.getD 121 undef=_);refine Or.inl ⟨.slice (some ⟨b,off,none⟩) ne ce,?_,rfl⟩;have f0:=(HX.out.below (qW5 _) hC).cell 10 _ rfl;go_simp
         refine ⟨rq _ _ _ [(7,.int .i64 k)] ⟨⟨by kernel_rfl,rfl⟩,trivial⟩ ?_,?_⟩
         ·intro a w1 hC e7;refine Or.inl ⟨.int .i64 k,?_,rfl⟩;go_simp
         refine ⟨rq _ _ _ [] trivial ?_,?_⟩
         ·intro a w1 hC (h3:a.tmps.getD 122 undef=_) (h4:a.tmps.getD 123 undef=_);refine Or.inl ⟨_,?_,rfl⟩;go_simp
          first | (go_bits;rfl) | rfl | (rw [if_pos (by omega)])
         refine ⟨rq _ _ _ [] trivial ?_,?_⟩
         ·intro a w1 hC (h5:a.tmps.getD 124 undef=_);refine Or.inl ⟨_,?_,rfl⟩;go_simp;rfl
         refine ⟨rq _ _ _ [] trivial ?_,?_⟩
         ·intro a w1 hC (h6:a.tmps.getD 125 undef=_);refine Or.inl ⟨.string y1,?_,rfl⟩;have f0:=(hC.cell (p:=⟨b,off + k * 2 + 0,none⟩) hbr).trans HE0.out
          try simp only [qXd] at f0
          go_simp
         refine ⟨rq _ _ _ [] trivial ?_,?_⟩
         ·intro a w1 hC (h7:a.tmps.getD 126 undef=_);refine Or.inr (Or.inl ⟨19,#[.string y1],?_,?_⟩)
          ·go_simp
          ·refine (qBo y1 w1).mono ?_;rintro e w2 ⟨rfl,rfl⟩;exact ⟨_,rfl,rfl,qXh _ _⟩
         refine ⟨rq _ _ _ [(1,.pointer (some ⟨p,0,none⟩))] ⟨⟨by kernel_rfl,rfl⟩,trivial⟩ ?_,?_⟩
         ·intro a w1 hC e1;refine Or.inl ⟨_,?_,rfl⟩;go_simp;rfl
         refine ⟨rq _ _ _ [] trivial ?_,?_⟩
         ·intro a w1 hC (h9:a.tmps.getD 128 undef=_);refine Or.inl ⟨.slice (some ⟨b,off,none⟩) ne ce,?_,rfl⟩;have f0:=(HX.out.below (qW5 _) hC).cell 10 _ rfl;go_simp
         refine ⟨rq _ _ _ [(7,.int .i64 k)] ⟨⟨by kernel_rfl,rfl⟩,trivial⟩ ?_,?_⟩
         ·intro a w1 hC e7;refine Or.inl ⟨.int .i64 k,?_,rfl⟩;go_simp
         refine ⟨rq _ _ _ [] trivial ?_,?_⟩
         ·intro a w1 hC (h10:a.tmps.getD 129 undef=_) (h11:a.tmps.getD 130 undef=_);refine Or.inl ⟨_,?_,rfl⟩;go_simp
          first | (go_bits;rfl) | rfl | (rw [if_pos (by omega)])
         refine ⟨rq _ _ _ [] trivial ?_,?_⟩
         ·intro a w1 hC (h12:a.tmps.getD 131 undef=_);refine Or.inl ⟨_,?_,rfl⟩;go_simp;rfl
         refine ⟨rq _ _ _ [] trivial ?_,?_⟩
         ·intro a w1 hC (h13:a.tmps.getD 132 undef=_);refine Or.inl ⟨.int .i64 y2,?_,rfl⟩;have f0:=(hC.cell (p:=⟨b,off + k * 2 + 1,none⟩) hbr).trans HE1.out
          try simp only [qXd] at f0
          go_simp
         refine ⟨rq _ _ _ [] trivial ?_,?_⟩
         ·intro a w1 hC (h8:a.tmps.getD 127 undef=_) (h14:a.tmps.getD 133 undef=_)
          have h8z:a.tmps[127]?.getD undef=.string (j5 y1):=(by simpa using h8)
          have h14z:a.tmps[133]?.getD undef=.int .i64 y2:=(by simpa using h14)
          refine Or.inl ⟨.agg #[.string (j5 y1),.int .i64 y2],?_,⟨[.string (j5 y1),.int .i64 y2],rfl,rfl,fun _ _=>rfl⟩⟩;go_simp
         refine ⟨rq _ _ _ [] trivial ?_,?_⟩
         ·intro a w1 hC h15;obtain ⟨cs,e,_,hx⟩:=h15;obtain rfl:=hx.now;have e:a.tmps.getD 134 undef=.agg #[.string (j5 y1),.int .i64 y2]:=e;rw [qXn] at e;refine Or.inr (Or.inr ⟨.slice (some ⟨w1.heap.size,0,none⟩) 1 1,w1.alloc (.cells #[.string (j5 y1),.int .i64 y2] 60),?_,qCh.mk (cs:=[.string (j5 y1),.int .i64 y2]) rfl (by simp [Value.oneCell']) hx,Bl.alloc (Bl.refl _) _⟩);go_simp
         exact trivial
        case hstE=>repeat (first | exact trivial | refine ⟨qB.is _,?_⟩ | refine ⟨qB.ag,?_⟩ | refine ⟨qB.nw,?_⟩)
        case hendE =>
         intro w1 hC;rintro _ rfl _ rfl _ rfl _ rfl _ rfl _ rfl _ rfl _ rfl _ rfl _ rfl _ rfl _ rfl _ rfl _ rfl _ rfl;intro x15 h15;intro x16 h16;obtain ⟨qn,csn,rfl,hnl,hno,hnc,hnx⟩:=h16;simp only [xV,Act.put,qXj,qXp,qXo,qXm,qXv];have hs1:=hC.size
         go_wp2_with (at_builtin;apply jF)
         refine hid ?_;refine qQ rfl (.tmp 120) (.tmp 135) 28 rfl _ _ Tryz.underlying28 qR6 rfl (by decide) rfl (HO.out.below hC (qW8 _)) (qXk hsr hs1) qn csn rfl hnl hnc hno (xY ⟨y1,y2⟩) (hnx.more fun b hb=>⟨qXk hsr hb.1,hb.2,fun e=>by have:=(HO.out.lt b e).2;omega⟩) (by rw [HLL.out];omega) (by rw [HLL.out];omega) ?_;intro v2 w2 o1 o2;obtain ⟨vo2,vc2,hve2,_,_,_⟩:=o1.shape;rw [qW7,HLL.out] at hve2;obtain rfl:v2=.slice vo2 (k + 1) vc2:=hve2;obtain ⟨hb2,hc2,hp2,hs2⟩:=qAj HB.out HC.out HO.out HPR.out hpq hqS hsr hC o2 (qW5 _);have hck2:=hc2.cell 10 _ rfl;have hfk2:=hc2.fro 10 _ rfl
         have hq2:q < w2.heap.size:=(by omega)
         have HE:=hid (qAk hb2 hc2 o1 hp2 hpq hqS hs2 (by rw [HZ0.out];exact qW8 _) 10 (.slice vo2 (k + 1) vc2) (by simp));clear hb2 hc2 hp2 hs2 o1 o2 hnl hno hnc hnx hC hs1;go_wp2_with fail;clear hck2 hfk2;go_roundw
         case rel =>
          obtain ⟨e1,e2,e3,e4,e5⟩:=HE.out;exact ⟨k + 1,.slice vo2 (k + 1) vc2,by omega,by omega,by go_num,hid e1,hid e2,hid (by rw [HTF.out];exact e3),hid e4,hid e5⟩
         case measure=>simp [intOf];omega
       ·
        have htk:(E.take 18).map xY=(E.take k).map xY:=by
         rcases Nat.lt_or_ge k 18 with h3 | h3
         ·have h4:¬ k < ne:=fun h=>hk ⟨h,h3⟩
          rw [qW9 (by rw [HLe.out];omega),qW9 (by rw [HLe.out];omega)]
         ·rw [show k=18 by omega]
        obtain ⟨ao,cap,hsl,hrx⟩:=HO.out.bx;rw [HLL.out] at hsl hrx;obtain ⟨rfl,rfl⟩:vo=ao /\ vc=cap:=by simpa using hsl
        rw [<- htk] at hrx;have HPN:Hid (Bx (fun b=>p + 2 <= b /\ b < wr.heap.size /\ b ≠ q) wr (fun w=>Φ w /\ RdG 2 ExR w vo k vc ((E.take 18).map xY))):=hid ((HPR.out.more fun b hb=>⟨hb.1,qXr hb.2.1 hsr,hb.2.2⟩).imp2 (hrx.more fun b hb=>⟨by omega,hb.2,by omega⟩) fun w a b=>⟨a,b⟩);clear htk hrx hsl;rcases Nat.lt_or_ge k ne with h3 | h3
        ·have h4:¬ k < 18:=fun h=>hk ⟨h3,h⟩
         clear hk;go_wp2_with fail;go_meet
         case rel=>exact ⟨k,vo,k,vc,rfl,HB,HC,HPN,hid (by omega)⟩
        ·clear hk;go_wp2_with fail;go_meet
         case rel=>exact ⟨k,vo,k,vc,rfl,HB,HC,HPN,hid (by omega)⟩
     case rest =>
      obtain ⟨kk,pe,me,re,rfl,HB,HC,HPV,HQS⟩:=hcut
      obtain ⟨ws,rfl⟩:∃ wo:World,wo=wc:=⟨_,rfl⟩
      obtain ⟨Φ,HFe,HPV⟩:=qB6 HPV;go_upto_block 8 with fail;go_cut [8] from 138 to 167 (fun u wc=>∃ (kk:Nat) (pl:Option Addr) (ml rl:Nat),u=.int .i64 kk /\ Hid (Below (p + 2) w0 wc) /\ Hid (Cel wc q [.slice pt mt rt,.slice pi mi ri,.slice pf mf rf,.bool th,.int .i64 tm,.int .i64 tx,.bool mh,.int .i64 mm,.int .i64 mx,.slice pg mg rg,.slice pe me re,.slice pl ml rl,.slice none 0 0,.slice none 0 0]) /\ Hid (Bx (fun b=>p + 2 <= b /\ b < wc.heap.size /\ b ≠ q) wc (fun w=>Φ w /\ RdG 2 ElR w pl ml rl ((L.take 18).map xZ))) /\ Hid (q < wc.heap.size))
      case first =>
       obtain ⟨S,hS⟩:∃ S,ws.heap.size=S:=⟨_,rfl⟩
       have hqS:q < S:=(by rw [<- hS];exact HQS.out)
       have HPS:Hid (Bx (fun b=>p + 2 <= b /\ b < S /\ b ≠ q) ws Φ):=hid (by rw [<- hS];exact HPV.out);have HSS:Hid (S <= ws.heap.size):=hid (Nat.le_of_eq hS.symm);clear hS HPV;go_wp2_with fail;go_loopw [8] (fun i wr=>∃ (k:Nat) (v:Value),k <= nl /\ k <= 18 /\ i=.int .i64 k /\ Hid (Below (p + 2) w0 wr) /\ Hid (Cel wr q [.slice pt mt rt,.slice pi mi ri,.slice pf mf rf,.bool th,.int .i64 tm,.int .i64 tx,.bool mh,.int .i64 mm,.int .i64 mx,.slice pg mg rg,.slice pe me re,v,.slice none 0 0,.slice none 0 0]) /\ Hid (OwnG 67 2 ElR S wr v ((L.take k).map xZ)) /\ Hid (Bx (fun b=>p + 2 <= b /\ b < S /\ b ≠ q) wr Φ) /\ Hid (S <= wr.heap.size)) (fun i _=>18 - (intOf i).toNat)
       case atStart=>exact ⟨0,_,qXf _,qXf _,rfl,HB,HC,hid (by simpa using OwnG.nil _ _ _ _ _),HPS,HSS⟩
       case round =>
        clear HB HC HPS HSS HQS;obtain ⟨k,v,hkn,hk18,rfl,HB,HC,HO,HPR,HSR⟩:=hrel;have hsr:=HSR.out;obtain ⟨vo,vc,rfl,hsh1,hsh2,_⟩:=HO.out.shape;have hll:((L.take k).map xZ).length=k:=by simp [HLl.out];omega
        rw [hll] at HO HC hsh1;have HLL:=hid hll;clear hll;have HX:=hid (HX0.out.keep (show p < p + 2 by omega) HB.out);have g0:=HX.out.cell 11 _ rfl
        have hpr:p < wr.heap.size:=(by omega)
        by_cases hk:k < nl /\ k < 18
        ·
         obtain ⟨hk,hk3⟩:=hk
         obtain ⟨x,hx⟩:∃ x,L[k]?=some x:=⟨L[k]'(by rw [HLl.out];omega),qW6 (by rw [HLl.out];omega)⟩
         have htf:(L.take (k + 1)).map xZ=(L.take k).map xZ ++ [xZ x]:=by
          rw [qXy,hx];simp
         have HTF:=hid htf;clear htf;obtain ⟨b,off,cs,rfl,hcl,hRR,hcw⟩:=RdG.elem HQl.out hx;have hbw:b < w.heap.size:=qXc w _ (hcw 0 cs[0] (qW6 (by omega)));have hbp:b < p:=by have:=HP.out;omega
         have HBW:Hid (Below w.heap.size w wr):=hid (HB0.out.trans (HB.out.mono (by rw [HP.out];omega)));have hcc:=fun j v hj=>(HBW.out.cell (p:=⟨b,off + k * 2 + j,none⟩) hbw).trans (hcw j v hj)
         have hbr:b < wr.heap.size:=(by omega)
         obtain ⟨y1,y2⟩:=x;obtain ⟨a2,m2,k2,rfl,hr2⟩:=hRR.now;have h5:=hcc 0 _ rfl;have HE0:=hid h5;clear h5;have h5:=hcc 1 _ rfl;have HE1:=hid h5;clear h5;have HR2:=hid hr2;clear hr2;clear hcc hcw hRR hcl hx;go_wp2_with fail;clear g0;refine qD 17 (by kernel_rfl) [Is ?vL0,Is (.slice vo k vc),Is ?vL2,Is (.slice (some ⟨b,off,none⟩) nl cl),Is (.int .i64 k),Is ?vL5,Is ?vL6,Is (.int .i64 y1),Is ?vL8,Is (.slice (some ⟨b,off,none⟩) nl cl),Is (.int .i64 k),Is ?vL11,Is ?vL12,Is (.slice a2 m2 k2),jW 3 .i64 wr.heap.size (y2.take 55),qE1 wr.heap.size 2 ElR (xZ ⟨y1,y2⟩),qCh wr.heap.size 2 ElR (xZ ⟨y1,y2⟩)] _ rfl (by kernel_rfl) rfl (by kernel_rfl) ?hopL ?hstL ?hendL
         case hopL =>
          refine ⟨rq _ _ _ [(3,.pointer (some ⟨q,0,none⟩))] ⟨⟨by kernel_rfl,rfl⟩,trivial⟩ ?_,?_⟩
          ·intro a w1 hC e3;refine Or.inl ⟨_,?_,rfl⟩;go_simp;rfl
          refine ⟨rq _ _ _ [] trivial ?_,?_⟩
          ·intro a w1 hC (h0:a.tmps.getD 149 undef=_);refine Or.inl ⟨.slice vo k vc,?_,rfl⟩;have f0:=(HC.out.below (qW5 _) hC).cell 11 _ rfl;go_simp
          refine ⟨rq _ _ _ [(1,.pointer (some ⟨p,0,none⟩))] ⟨⟨by kernel_rfl,rfl⟩,trivial⟩ ?_,?_⟩
          ·intro a w1 hC e1;refine Or.inl ⟨_,?_,rfl⟩;go_simp;rfl
          refine ⟨rq _ _ _ [] trivial ?_,?_⟩
          ·intro a w1 hC (h2:a.tmps.getD 151 undef=_);refine Or.inl ⟨.slice (some ⟨b,off,none⟩) nl cl,?_,rfl⟩;have f0:=(HX.out.below (qW5 _) hC).cell 11 _ rfl;go_simp
          refine ⟨rq _ _ _ [(8,.int .i64 k)] ⟨⟨by kernel_rfl,rfl⟩,trivial⟩ ?_,?_⟩
          ·intro a w1 hC e8;refine Or.inl ⟨.int .i64 k,?_,rfl⟩;go_simp
          refine ⟨rq _ _ _ [] trivial ?_,?_⟩
          ·intro a w1 hC (h3:a.tmps.getD 152 undef=_) (h4:a.tmps.getD 153 undef=_);refine Or.inl ⟨_,?_,rfl⟩;go_simp
           first | (go_bits;rfl) | rfl | (rw [if_pos (by omega)])
          refine ⟨rq _ _ _ [] trivial ?_,?_⟩
          ·intro a w1 hC (h5:a.tmps.getD 154 undef=_);refine Or.inl ⟨_,?_,rfl⟩;go_simp;rfl
          refine ⟨rq _ _ _ [] trivial ?_,?_⟩
          ·intro a w1 hC (h6:a.tmps.getD 155 undef=_);refine Or.inl ⟨.int .i64 y1,?_,rfl⟩;have f0:=(hC.cell (p:=⟨b,off + k * 2 + 0,none⟩) hbr).trans HE0.out
           try simp only [qXd] at f0
           go_simp
          refine ⟨rq _ _ _ [(1,.pointer (some ⟨p,0,none⟩))] ⟨⟨by kernel_rfl,rfl⟩,trivial⟩ ?_,?_⟩
          ·intro a w1 hC e1;refine Or.inl ⟨_,?_,rfl⟩;go_simp;rfl
          refine ⟨rq _ _ _ [] trivial ?_,?_⟩
          ·intro a w1 hC (h8:a.tmps.getD 157 undef=_);refine Or.inl ⟨.slice (some ⟨b,off,none⟩) nl cl,?_,rfl⟩;have f0:=(HX.out.below (qW5 _) hC).cell 11 _ rfl;go_simp
          refine ⟨rq _ _ _ [(8,.int .i64 k)] ⟨⟨by kernel_rfl,rfl⟩,trivial⟩ ?_,?_⟩
          ·intro a w1 hC e8;refine Or.inl ⟨.int .i64 k,?_,rfl⟩;go_simp
          refine ⟨rq _ _ _ [] trivial ?_,?_⟩
          ·intro a w1 hC (h9:a.tmps.getD 158 undef=_) (h10:a.tmps.getD 159 undef=_);refine Or.inl ⟨_,?_,rfl⟩;go_simp
           first | (go_bits;rfl) | rfl | (rw [if_pos (by omega)])
          refine ⟨rq _ _ _ [] trivial ?_,?_⟩
          ·intro a w1 hC (h11:a.tmps.getD 160 undef=_);refine Or.inl ⟨_,?_,rfl⟩;go_simp;rfl
          refine ⟨rq _ _ _ [] trivial ?_,?_⟩
          ·intro a w1 hC (h12:a.tmps.getD 161 undef=_);refine Or.inl ⟨.slice a2 m2 k2,?_,rfl⟩;have f0:=(hC.cell (p:=⟨b,off + k * 2 + 1,none⟩) hbr).trans HE1.out
           try simp only [qXd] at f0
           go_simp
          refine ⟨rq _ _ _ [] trivial ?_,?_⟩
          ·intro a w1 hC (h13:a.tmps.getD 162 undef=_);refine Or.inr (Or.inl ⟨18,#[.slice a2 m2 k2,.int .i64 55],?_,?_⟩)
           ·go_simp
           ·refine (qC1 55 55 rfl (by decide) a2 m2 k2 y2 w1 (HR2.out.below (HBW.out.trans (hC.mono HBW.out.size)))).mono ?_;rintro e w2 ⟨vv,rfl,hown,hbel⟩;exact ⟨_,rfl,hown.lift hC.size,hbel⟩
          refine ⟨rq _ _ _ [] trivial ?_,?_⟩
          ·intro a w1 hC (h7:a.tmps.getD 156 undef=_) h14;obtain ⟨o2,u2,e2,hx2⟩:=Own.bx h14;have e2:a.tmps.getD 163 undef=_:=e2;rw [qXn] at e2
           have h0z:a.tmps[156]?.getD undef=.int .i64 y1:=(by simpa using h7)
           refine Or.inl ⟨.agg #[.int .i64 y1,.slice o2 _ u2],?_,⟨[.int .i64 y1,.slice o2 _ u2],rfl,rfl,hx2.imp fun w b=>⟨_,_,_,rfl,b⟩⟩⟩;go_simp
          refine ⟨rq _ _ _ [] trivial ?_,?_⟩
          ·intro a w1 hC h15;obtain ⟨cs,e,_,hx⟩:=h15;obtain ⟨o2,n2,u2,rfl,_⟩:=hx.now;have e:a.tmps.getD 164 undef=.agg #[.int .i64 y1,.slice o2 n2 u2]:=e;rw [qXn] at e;refine Or.inr (Or.inr ⟨.slice (some ⟨w1.heap.size,0,none⟩) 1 1,w1.alloc (.cells #[.int .i64 y1,.slice o2 n2 u2] 67),?_,qCh.mk (cs:=[.int .i64 y1,.slice o2 n2 u2]) rfl (by simp [Value.oneCell']) hx,Bl.alloc (Bl.refl _) _⟩);go_simp
          exact trivial
         case hstL=>repeat (first | exact trivial | refine ⟨qB.is _,?_⟩ | refine ⟨qB.own _ _ _ _,?_⟩ | refine ⟨qB.ag,?_⟩ | refine ⟨qB.nw,?_⟩)
         case hendL =>
          intro w1 hC;rintro _ rfl _ rfl _ rfl _ rfl _ rfl _ rfl _ rfl _ rfl _ rfl _ rfl _ rfl _ rfl _ rfl _ rfl;intro x14 h14;intro x15 h15;intro x16 h16;obtain ⟨qn,csn,rfl,hnl,hno,hnc,hnx⟩:=h16;simp only [xV,Act.put,qXj,qXp,qXo,qXm,qXv];have hs1:=hC.size
          go_wp2_with (at_builtin;apply jF)
          refine hid ?_;refine qQ rfl (.tmp 150) (.tmp 165) 29 rfl _ _ Tryz.underlying29 qR7 rfl (by decide) rfl (HO.out.below hC (qW8 _)) (qXk hsr hs1) qn csn rfl hnl hnc hno (xZ ⟨y1,y2⟩) (hnx.more fun b hb=>⟨qXk hsr hb.1,hb.2,fun e=>by have:=(HO.out.lt b e).2;omega⟩) (by rw [HLL.out];omega) (by rw [HLL.out];omega) ?_;intro v2 w2 o1 o2;obtain ⟨vo2,vc2,hve2,_,_,_⟩:=o1.shape;rw [qW7,HLL.out] at hve2;obtain rfl:v2=.slice vo2 (k + 1) vc2:=hve2;obtain ⟨hb2,hc2,hp2,hs2⟩:=qAj HB.out HC.out HO.out HPR.out hpq hqS hsr hC o2 (qW5 _);have hck2:=hc2.cell 11 _ rfl;have hfk2:=hc2.fro 11 _ rfl
          have hq2:q < w2.heap.size:=(by omega)
          have HE:=hid (qAk hb2 hc2 o1 hp2 hpq hqS hs2 (by rw [HZ0.out];exact qW8 _) 11 (.slice vo2 (k + 1) vc2) (by simp));clear hb2 hc2 hp2 hs2 o1 o2 hnl hno hnc hnx hC hs1;go_wp2_with fail;clear hck2 hfk2;go_roundw
          case rel =>
           obtain ⟨e1,e2,e3,e4,e5⟩:=HE.out;exact ⟨k + 1,.slice vo2 (k + 1) vc2,by omega,by omega,by go_num,hid e1,hid e2,hid (by rw [HTF.out];exact e3),hid e4,hid e5⟩
          case measure=>simp [intOf];omega
        ·
         have htk:(L.take 18).map xZ=(L.take k).map xZ:=by
          rcases Nat.lt_or_ge k 18 with h3 | h3
          ·have h4:¬ k < nl:=fun h=>hk ⟨h,h3⟩
           rw [qW9 (by rw [HLl.out];omega),qW9 (by rw [HLl.out];omega)]
          ·rw [show k=18 by omega]
         obtain ⟨ao,cap,hsl,hrx⟩:=HO.out.bx;rw [HLL.out] at hsl hrx;obtain ⟨rfl,rfl⟩:vo=ao /\ vc=cap:=by simpa using hsl
         rw [<- htk] at hrx;have HPN:Hid (Bx (fun b=>p + 2 <= b /\ b < wr.heap.size /\ b ≠ q) wr (fun w=>Φ w /\ RdG 2 ElR w vo k vc ((L.take 18).map xZ))):=hid ((HPR.out.more fun b hb=>⟨hb.1,qXr hb.2.1 hsr,hb.2.2⟩).imp2 (hrx.more fun b hb=>⟨by omega,hb.2,by omega⟩) fun w a b=>⟨a,b⟩);clear htk hrx hsl;rcases Nat.lt_or_ge k nl with h3 | h3
         ·have h4:¬ k < 18:=fun h=>hk ⟨h3,h⟩
          clear hk;go_wp2_with fail;go_meet
          case rel=>exact ⟨k,vo,k,vc,rfl,HB,HC,HPN,hid (by omega)⟩
         ·clear hk;go_wp2_with fail;go_meet
          case rel=>exact ⟨k,vo,k,vc,rfl,HB,HC,HPN,hid (by omega)⟩
      case rest =>
       obtain ⟨kk,pl,ml,rl,rfl,HB,HC,HPV,HQS⟩:=hcut
       obtain ⟨ws,rfl⟩:∃ wo:World,wo=wc:=⟨_,rfl⟩
       obtain ⟨Φ,HFl,HPV⟩:=qB6 HPV;go_upto_block 10 with fail;go_cut [9] from 168 to 198 (fun u wc=>∃ (kk:Nat) (pc:Option Addr) (mc rc:Nat),u=.int .i64 kk /\ Hid (Below (p + 2) w0 wc) /\ Hid (Cel wc q [.slice pt mt rt,.slice pi mi ri,.slice pf mf rf,.bool th,.int .i64 tm,.int .i64 tx,.bool mh,.int .i64 mm,.int .i64 mx,.slice pg mg rg,.slice pe me re,.slice pl ml rl,.slice pc mc rc,.slice none 0 0]) /\ Hid (Bx (fun b=>p + 2 <= b /\ b < wc.heap.size /\ b ≠ q) wc (fun w=>Φ w /\ RdG 2 CoR w pc mc rc ((C.take 18).map vF))) /\ Hid (q < wc.heap.size))
       case first =>
        obtain ⟨S,hS⟩:∃ S,ws.heap.size=S:=⟨_,rfl⟩
        have hqS:q < S:=(by rw [<- hS];exact HQS.out)
        have HPS:Hid (Bx (fun b=>p + 2 <= b /\ b < S /\ b ≠ q) ws Φ):=hid (by rw [<- hS];exact HPV.out);have HSS:Hid (S <= ws.heap.size):=hid (Nat.le_of_eq hS.symm);clear hS HPV;go_wp2_with fail;go_loopw [9] (fun i wr=>∃ (k:Nat) (v:Value),k <= nc /\ k <= 18 /\ i=.int .i64 k /\ Hid (Below (p + 2) w0 wr) /\ Hid (Cel wr q [.slice pt mt rt,.slice pi mi ri,.slice pf mf rf,.bool th,.int .i64 tm,.int .i64 tx,.bool mh,.int .i64 mm,.int .i64 mx,.slice pg mg rg,.slice pe me re,.slice pl ml rl,v,.slice none 0 0]) /\ Hid (OwnG 49 2 CoR S wr v ((C.take k).map vF)) /\ Hid (Bx (fun b=>p + 2 <= b /\ b < S /\ b ≠ q) wr Φ) /\ Hid (S <= wr.heap.size)) (fun i _=>18 - (intOf i).toNat)
        case atStart=>exact ⟨0,_,qXf _,qXf _,rfl,HB,HC,hid (by simpa using OwnG.nil _ _ _ _ _),HPS,HSS⟩
        case round =>
         clear HB HC HPS HSS HQS;obtain ⟨k,v,hkn,hk18,rfl,HB,HC,HO,HPR,HSR⟩:=hrel;have hsr:=HSR.out;obtain ⟨vo,vc,rfl,hsh1,hsh2,_⟩:=HO.out.shape;have hll:((C.take k).map vF).length=k:=by simp [HLc.out];omega
         rw [hll] at HO HC hsh1;have HLL:=hid hll;clear hll;have HX:=hid (HX0.out.keep (show p < p + 2 by omega) HB.out);have g0:=HX.out.cell 12 _ rfl
         have hpr:p < wr.heap.size:=(by omega)
         by_cases hk:k < nc /\ k < 18
         ·
          obtain ⟨hk,hk3⟩:=hk
          obtain ⟨x,hx⟩:∃ x,C[k]?=some x:=⟨C[k]'(by rw [HLc.out];omega),qW6 (by rw [HLc.out];omega)⟩
          have htf:(C.take (k + 1)).map vF=(C.take k).map vF ++ [vF x]:=by
           rw [qXy,hx];simp
          have HTF:=hid htf;clear htf;obtain ⟨b,off,cs,rfl,hcl,hRR,hcw⟩:=RdG.elem HQc.out hx;have hbw:b < w.heap.size:=qXc w _ (hcw 0 cs[0] (qW6 (by omega)));have hbp:b < p:=by have:=HP.out;omega
          have HBW:Hid (Below w.heap.size w wr):=hid (HB0.out.trans (HB.out.mono (by rw [HP.out];omega)));have hcc:=fun j v hj=>(HBW.out.cell (p:=⟨b,off + k * 2 + j,none⟩) hbw).trans (hcw j v hj)
          have hbr:b < wr.heap.size:=(by omega)
          obtain ⟨y1,y2⟩:=x;obtain ⟨a1,m1,k1,a2,m2,k2,rfl,hr1,hr2⟩:=hRR.now;have h5:=hcc 0 _ rfl;have HE0:=hid h5;clear h5;have h5:=hcc 1 _ rfl;have HE1:=hid h5;clear h5;have HR1:=hid hr1;clear hr1;have HR2:=hid hr2;clear hr2;clear hcc hcw hRR hcl hx;go_wp2_with fail;clear g0;refine qD 18 (by kernel_rfl) [Is ?vC0,Is (.slice vo k vc),Is ?vC2,Is (.slice (some ⟨b,off,none⟩) nc cc),Is (.int .i64 k),Is ?vC5,Is ?vC6,Is (.slice a1 m1 k1),jW 3 .i64 wr.heap.size (y1.take 34),Is ?vC9,Is (.slice (some ⟨b,off,none⟩) nc cc),Is (.int .i64 k),Is ?vC12,Is ?vC13,Is (.slice a2 m2 k2),qVt 51 4 InR wr.heap.size ((y2.take 120).map qOr),qE1 wr.heap.size 2 CoR (vF ⟨y1,y2⟩),qCh wr.heap.size 2 CoR (vF ⟨y1,y2⟩)] _ rfl (by kernel_rfl) rfl (by kernel_rfl) ?hopC ?hstC ?hendC
          case hopC =>
           refine ⟨rq _ _ _ [(3,.pointer (some ⟨q,0,none⟩))] ⟨⟨by kernel_rfl,rfl⟩,trivial⟩ ?_,?_⟩
           ·intro a w1 hC e3;refine Or.inl ⟨_,?_,rfl⟩;go_simp;rfl
           refine ⟨rq _ _ _ [] trivial ?_,?_⟩
           ·intro a w1 hC (h0:a.tmps.getD 179 undef=_);refine Or.inl ⟨.slice vo k vc,?_,rfl⟩;have f0:=(HC.out.below (qW5 _) hC).cell 12 _ rfl;go_simp
           refine ⟨rq _ _ _ [(1,.pointer (some ⟨p,0,none⟩))] ⟨⟨by kernel_rfl,rfl⟩,trivial⟩ ?_,?_⟩
           ·intro a w1 hC e1;refine Or.inl ⟨_,?_,rfl⟩;go_simp;rfl
           refine ⟨rq _ _ _ [] trivial ?_,?_⟩
           ·intro a w1 hC (h2:a.tmps.getD 181 undef=_);refine Or.inl ⟨.slice (some ⟨b,off,none⟩) nc cc,?_,rfl⟩;have f0:=(HX.out.below (qW5 _) hC).cell 12 _ rfl;go_simp
           refine ⟨rq _ _ _ [(9,.int .i64 k)] ⟨⟨by kernel_rfl,rfl⟩,trivial⟩ ?_,?_⟩
           ·intro a w1 hC e9;refine Or.inl ⟨.int .i64 k,?_,rfl⟩;go_simp
           refine ⟨rq _ _ _ [] trivial ?_,?_⟩
           ·intro a w1 hC (h3:a.tmps.getD 182 undef=_) (h4:a.tmps.getD 183 undef=_);refine Or.inl ⟨_,?_,rfl⟩;go_simp
            first | (go_bits;rfl) | rfl | (rw [if_pos (by omega)])
           refine ⟨rq _ _ _ [] trivial ?_,?_⟩
           ·intro a w1 hC (h5:a.tmps.getD 184 undef=_);refine Or.inl ⟨_,?_,rfl⟩;go_simp;rfl
           refine ⟨rq _ _ _ [] trivial ?_,?_⟩
           ·intro a w1 hC (h6:a.tmps.getD 185 undef=_);refine Or.inl ⟨.slice a1 m1 k1,?_,rfl⟩;have f0:=(hC.cell (p:=⟨b,off + k * 2 + 0,none⟩) hbr).trans HE0.out
            try simp only [qXd] at f0
            go_simp
           refine ⟨rq _ _ _ [] trivial ?_,?_⟩
           ·intro a w1 hC (h7:a.tmps.getD 186 undef=_);refine Or.inr (Or.inl ⟨18,#[.slice a1 m1 k1,.int .i64 34],?_,?_⟩)
            ·go_simp
            ·refine (qC1 34 34 rfl (by decide) a1 m1 k1 y1 w1 (HR1.out.below (HBW.out.trans (hC.mono HBW.out.size)))).mono ?_;rintro e w2 ⟨vv,rfl,hown,hbel⟩;exact ⟨_,rfl,hown.lift hC.size,hbel⟩
           refine ⟨rq _ _ _ [(1,.pointer (some ⟨p,0,none⟩))] ⟨⟨by kernel_rfl,rfl⟩,trivial⟩ ?_,?_⟩
           ·intro a w1 hC e1;refine Or.inl ⟨_,?_,rfl⟩;go_simp;rfl
           refine ⟨rq _ _ _ [] trivial ?_,?_⟩
           ·intro a w1 hC (h9:a.tmps.getD 188 undef=_);refine Or.inl ⟨.slice (some ⟨b,off,none⟩) nc cc,?_,rfl⟩;have f0:=(HX.out.below (qW5 _) hC).cell 12 _ rfl;go_simp
           refine ⟨rq _ _ _ [(9,.int .i64 k)] ⟨⟨by kernel_rfl,rfl⟩,trivial⟩ ?_,?_⟩
           ·intro a w1 hC e9;refine Or.inl ⟨.int .i64 k,?_,rfl⟩;go_simp
           refine ⟨rq _ _ _ [] trivial ?_,?_⟩
           ·intro a w1 hC (h10:a.tmps.getD 189 undef=_) (h11:a.tmps.getD 190 undef=_);refine Or.inl ⟨_,?_,rfl⟩;go_simp
            first | (go_bits;rfl) | rfl | (rw [if_pos (by omega)])
           refine ⟨rq _ _ _ [] trivial ?_,?_⟩
           ·intro a w1 hC (h12:a.tmps.getD 191 undef=_);refine Or.inl ⟨_,?_,rfl⟩;go_simp;rfl
           refine ⟨rq _ _ _ [] trivial ?_,?_⟩
           ·intro a w1 hC (h13:a.tmps.getD 192 undef=_);refine Or.inl ⟨.slice a2 m2 k2,?_,rfl⟩;have f0:=(hC.cell (p:=⟨b,off + k * 2 + 1,none⟩) hbr).trans HE1.out
            try simp only [qXd] at f0
            go_simp
           refine ⟨rq _ _ _ [] trivial ?_,?_⟩
           ·intro a w1 hC (h14:a.tmps.getD 193 undef=_) h8;refine Or.inr (Or.inl ⟨20,#[.slice a2 m2 k2,.int .i64 120],?_,?_⟩)
            ·go_simp
            ·refine (qOu 120 120 rfl (by decide) (fun _=>True) a2 m2 k2 y2 w1 (HR2.out.insP.below (HBW.out.trans (hC.mono HBW.out.size)))).mono ?_;rintro e w2 ⟨vv,rfl,hown,hbel⟩;exact ⟨_,rfl,(qB7.g hown (qS1 HR2.out)).lift hC.size,hbel⟩
           refine ⟨rq _ _ _ [] trivial ?_,?_⟩
           ·intro a w1 hC h8 h15;obtain ⟨o1,u1,e1,hx1⟩:=Own.bx h8;have e1:a.tmps.getD 187 undef=_:=e1;rw [qXn] at e1;obtain ⟨o2,u2,e2,hx2⟩:=OwnG.bx h15;have e2:a.tmps.getD 194 undef=_:=e2;rw [qXn] at e2;refine Or.inl ⟨.agg #[.slice o1 _ u1,.slice o2 _ u2],?_,⟨[.slice o1 _ u1,.slice o2 _ u2],rfl,rfl,hx1.imp2 hx2 fun w a b=>⟨_,_,_,_,_,_,rfl,a,b⟩⟩⟩;go_simp
           refine ⟨rq _ _ _ [] trivial ?_,?_⟩
           ·intro a w1 hC h16;obtain ⟨cs,e,_,hx⟩:=h16;obtain ⟨o1,n1,u1,o2,n2,u2,rfl,_,_⟩:=hx.now;have e:a.tmps.getD 195 undef=.agg #[.slice o1 n1 u1,.slice o2 n2 u2]:=e;rw [qXn] at e;refine Or.inr (Or.inr ⟨.slice (some ⟨w1.heap.size,0,none⟩) 1 1,w1.alloc (.cells #[.slice o1 n1 u1,.slice o2 n2 u2] 49),?_,qCh.mk (cs:=[.slice o1 n1 u1,.slice o2 n2 u2]) rfl (by simp [Value.oneCell']) hx,Bl.alloc (Bl.refl _) _⟩);go_simp
           exact trivial
          case hstC=>repeat (first | exact trivial | refine ⟨qB.is _,?_⟩ | refine ⟨qB.own _ _ _ _,?_⟩ | refine ⟨qB.og _ _ _ _ _,?_⟩ | refine ⟨qB.ag,?_⟩ | refine ⟨qB.nw,?_⟩)
          case hendC =>
           intro w1 hC;rintro _ rfl _ rfl _ rfl _ rfl _ rfl _ rfl _ rfl _ rfl;intro x8 h8;rintro _ rfl _ rfl _ rfl _ rfl _ rfl _ rfl;intro x15 h15;intro x16 h16;intro x17 h17;obtain ⟨qn,csn,rfl,hnl,hno,hnc,hnx⟩:=h17;simp only [xV,Act.put,qXj,qXp,qXo,qXm,qXv];have hs1:=hC.size
           go_wp2_with (at_builtin;apply jF)
           refine hid ?_;refine qQ rfl (.tmp 180) (.tmp 196) 30 rfl _ _ Tryz.underlying30 qR8 rfl (by decide) rfl (HO.out.below hC (qW8 _)) (qXk hsr hs1) qn csn rfl hnl hnc hno (vF ⟨y1,y2⟩) (hnx.more fun b hb=>⟨qXk hsr hb.1,hb.2,fun e=>by have:=(HO.out.lt b e).2;omega⟩) (by rw [HLL.out];omega) (by rw [HLL.out];omega) ?_;intro v2 w2 o1 o2;obtain ⟨vo2,vc2,hve2,_,_,_⟩:=o1.shape;rw [qW7,HLL.out] at hve2;obtain rfl:v2=.slice vo2 (k + 1) vc2:=hve2;obtain ⟨hb2,hc2,hp2,hs2⟩:=qAj HB.out HC.out HO.out HPR.out hpq hqS hsr hC o2 (qW5 _);have hck2:=hc2.cell 12 _ rfl;have hfk2:=hc2.fro 12 _ rfl
           have hq2:q < w2.heap.size:=(by omega)
           have HE:=hid (qAk hb2 hc2 o1 hp2 hpq hqS hs2 (by rw [HZ0.out];exact qW8 _) 12 (.slice vo2 (k + 1) vc2) (by simp));clear hb2 hc2 hp2 hs2 o1 o2 hnl hno hnc hnx hC hs1;go_wp2_with fail;clear hck2 hfk2;go_roundw
           case rel =>
            obtain ⟨e1,e2,e3,e4,e5⟩:=HE.out;exact ⟨k + 1,.slice vo2 (k + 1) vc2,by omega,by omega,by go_num,hid e1,hid e2,hid (by rw [HTF.out];exact e3),hid e4,hid e5⟩
           case measure=>simp [intOf];omega
         ·
          have htk:(C.take 18).map vF=(C.take k).map vF:=by
           rcases Nat.lt_or_ge k 18 with h3 | h3
           ·have h4:¬ k < nc:=fun h=>hk ⟨h,h3⟩
            rw [qW9 (by rw [HLc.out];omega),qW9 (by rw [HLc.out];omega)]
           ·rw [show k=18 by omega]
          obtain ⟨ao,cap,hsl,hrx⟩:=HO.out.bx;rw [HLL.out] at hsl hrx;obtain ⟨rfl,rfl⟩:vo=ao /\ vc=cap:=by simpa using hsl
          rw [<- htk] at hrx;have HPN:Hid (Bx (fun b=>p + 2 <= b /\ b < wr.heap.size /\ b ≠ q) wr (fun w=>Φ w /\ RdG 2 CoR w vo k vc ((C.take 18).map vF))):=hid ((HPR.out.more fun b hb=>⟨hb.1,qXr hb.2.1 hsr,hb.2.2⟩).imp2 (hrx.more fun b hb=>⟨by omega,hb.2,by omega⟩) fun w a b=>⟨a,b⟩);clear htk hrx hsl;rcases Nat.lt_or_ge k nc with h3 | h3
          ·have h4:¬ k < 18:=fun h=>hk ⟨h3,h⟩
           clear hk;go_wp2_with fail;go_meet
           case rel=>exact ⟨k,vo,k,vc,rfl,HB,HC,HPN,hid (by omega)⟩
          ·clear hk;go_wp2_with fail;go_meet
           case rel=>exact ⟨k,vo,k,vc,rfl,HB,HC,HPN,hid (by omega)⟩
       case rest =>
        obtain ⟨kk,pc,mc,rc,rfl,HB,HC,HPV,HQS⟩:=hcut
        obtain ⟨ws,rfl⟩:∃ wo:World,wo=wc:=⟨_,rfl⟩
        obtain ⟨Φ,HFc,HPV⟩:=qB6 HPV;go_upto_block 12 with fail;go_cut [10] from 199 to 229 (fun u wc=>∃ (kk:Nat) (pd:Option Addr) (md rd:Nat),u=.int .i64 kk /\ Hid (Below (p + 2) w0 wc) /\ Hid (Cel wc q [.slice pt mt rt,.slice pi mi ri,.slice pf mf rf,.bool th,.int .i64 tm,.int .i64 tx,.bool mh,.int .i64 mm,.int .i64 mx,.slice pg mg rg,.slice pe me re,.slice pl ml rl,.slice pc mc rc,.slice pd md rd]) /\ Hid (Bx (fun b=>p + 2 <= b /\ b < wc.heap.size /\ b ≠ q) wc (fun w=>Φ w /\ RdG 2 DaR w pd md rd ((D.take 18).map yA))) /\ Hid (q < wc.heap.size))
        case first =>
         obtain ⟨S,hS⟩:∃ S,ws.heap.size=S:=⟨_,rfl⟩
         have hqS:q < S:=(by rw [<- hS];exact HQS.out)
         have HPS:Hid (Bx (fun b=>p + 2 <= b /\ b < S /\ b ≠ q) ws Φ):=hid (by rw [<- hS];exact HPV.out);have HSS:Hid (S <= ws.heap.size):=hid (Nat.le_of_eq hS.symm);clear hS HPV;go_wp2_with fail;go_loopw [10] (fun i wr=>∃ (k:Nat) (v:Value),k <= nd /\ k <= 18 /\ i=.int .i64 k /\ Hid (Below (p + 2) w0 wr) /\ Hid (Cel wr q [.slice pt mt rt,.slice pi mi ri,.slice pf mf rf,.bool th,.int .i64 tm,.int .i64 tx,.bool mh,.int .i64 mm,.int .i64 mx,.slice pg mg rg,.slice pe me re,.slice pl ml rl,.slice pc mc rc,v]) /\ Hid (OwnG 44 2 DaR S wr v ((D.take k).map yA)) /\ Hid (Bx (fun b=>p + 2 <= b /\ b < S /\ b ≠ q) wr Φ) /\ Hid (S <= wr.heap.size)) (fun i _=>18 - (intOf i).toNat)
         case atStart=>exact ⟨0,_,qXf _,qXf _,rfl,HB,HC,hid (by simpa using OwnG.nil _ _ _ _ _),HPS,HSS⟩
         case round =>
          clear HB HC HPS HSS HQS;obtain ⟨k,v,hkn,hk18,rfl,HB,HC,HO,HPR,HSR⟩:=hrel;have hsr:=HSR.out;obtain ⟨vo,vc,rfl,hsh1,hsh2,_⟩:=HO.out.shape;have hll:((D.take k).map yA).length=k:=by simp [HLd.out];omega
          rw [hll] at HO HC hsh1;have HLL:=hid hll;clear hll;have HX:=hid (HX0.out.keep (show p < p + 2 by omega) HB.out);have g0:=HX.out.cell 13 _ rfl
          have hpr:p < wr.heap.size:=(by omega)
          by_cases hk:k < nd /\ k < 18
          ·
           obtain ⟨hk,hk3⟩:=hk
           obtain ⟨x,hx⟩:∃ x,D[k]?=some x:=⟨D[k]'(by rw [HLd.out];omega),qW6 (by rw [HLd.out];omega)⟩
           have htf:(D.take (k + 1)).map yA=(D.take k).map yA ++ [yA x]:=by
            rw [qXy,hx];simp
           have HTF:=hid htf;clear htf;obtain ⟨b,off,cs,rfl,hcl,hRR,hcw⟩:=RdG.elem HQd.out hx;have hbw:b < w.heap.size:=qXc w _ (hcw 0 cs[0] (qW6 (by omega)));have hbp:b < p:=by have:=HP.out;omega
           have HBW:Hid (Below w.heap.size w wr):=hid (HB0.out.trans (HB.out.mono (by rw [HP.out];omega)));have hcc:=fun j v hj=>(HBW.out.cell (p:=⟨b,off + k * 2 + j,none⟩) hbw).trans (hcw j v hj)
           have hbr:b < wr.heap.size:=(by omega)
           obtain ⟨y1,y2⟩:=x;obtain ⟨a2,m2,k2,rfl,hr2⟩:=hRR.now;have h5:=hcc 0 _ rfl;have HE0:=hid h5;clear h5;have h5:=hcc 1 _ rfl;have HE1:=hid h5;clear h5;have HR2:=hid hr2;clear hr2;clear hcc hcw hRR hcl hx;go_wp2_with fail;clear g0;refine qD 18 (by kernel_rfl) [Is ?vD0,Is (.slice vo k vc),Is ?vD2,Is (.slice (some ⟨b,off,none⟩) nd cd),Is (.int .i64 k),Is ?vD5,Is ?vD6,Is (.int .i64 y1),Is ?vD8,Is (.slice (some ⟨b,off,none⟩) nd cd),Is (.int .i64 k),Is ?vD11,Is ?vD12,Is (.slice a2 m2 k2),Is (.slice a2 (min m2 1010) k2),jW 5 .u8 wr.heap.size (y2.take 1010),qE1 wr.heap.size 2 DaR (yA ⟨y1,y2⟩),qCh wr.heap.size 2 DaR (yA ⟨y1,y2⟩)] _ rfl (by kernel_rfl) rfl (by kernel_rfl) ?hopD ?hstD ?hendD
           case hopD =>
            refine ⟨rq _ _ _ [(3,.pointer (some ⟨q,0,none⟩))] ⟨⟨by kernel_rfl,rfl⟩,trivial⟩ ?_,?_⟩
            ·intro a w1 hC e3;refine Or.inl ⟨_,?_,rfl⟩;go_simp;rfl
            refine ⟨rq _ _ _ [] trivial ?_,?_⟩
            ·intro a w1 hC (h0:a.tmps.getD 210 undef=_);refine Or.inl ⟨.slice vo k vc,?_,rfl⟩;have f0:=(HC.out.below (qW5 _) hC).cell 13 _ rfl;go_simp
            refine ⟨rq _ _ _ [(1,.pointer (some ⟨p,0,none⟩))] ⟨⟨by kernel_rfl,rfl⟩,trivial⟩ ?_,?_⟩
            ·intro a w1 hC e1;refine Or.inl ⟨_,?_,rfl⟩;go_simp;rfl
            refine ⟨rq _ _ _ [] trivial ?_,?_⟩
            ·intro a w1 hC (h2:a.tmps.getD 212 undef=_);refine Or.inl ⟨.slice (some ⟨b,off,none⟩) nd cd,?_,rfl⟩;have f0:=(HX.out.below (qW5 _) hC).cell 13 _ rfl;go_simp
            refine ⟨rq _ _ _ [(10,.int .i64 k)] ⟨⟨by kernel_rfl,rfl⟩,trivial⟩ ?_,?_⟩
            ·intro a w1 hC e10;refine Or.inl ⟨.int .i64 k,?_,rfl⟩;go_simp
            refine ⟨rq _ _ _ [] trivial ?_,?_⟩
            ·intro a w1 hC (h3:a.tmps.getD 213 undef=_) (h4:a.tmps.getD 214 undef=_);refine Or.inl ⟨_,?_,rfl⟩;go_simp
             first | (go_bits;rfl) | rfl | (rw [if_pos (by omega)])
            refine ⟨rq _ _ _ [] trivial ?_,?_⟩
            ·intro a w1 hC (h5:a.tmps.getD 215 undef=_);refine Or.inl ⟨_,?_,rfl⟩;go_simp;rfl
            refine ⟨rq _ _ _ [] trivial ?_,?_⟩
            ·intro a w1 hC (h6:a.tmps.getD 216 undef=_);refine Or.inl ⟨.int .i64 y1,?_,rfl⟩;have f0:=(hC.cell (p:=⟨b,off + k * 2 + 0,none⟩) hbr).trans HE0.out
             try simp only [qXd] at f0
             go_simp
            refine ⟨rq _ _ _ [(1,.pointer (some ⟨p,0,none⟩))] ⟨⟨by kernel_rfl,rfl⟩,trivial⟩ ?_,?_⟩
            ·intro a w1 hC e1;refine Or.inl ⟨_,?_,rfl⟩;go_simp;rfl
            refine ⟨rq _ _ _ [] trivial ?_,?_⟩
            ·intro a w1 hC (h8:a.tmps.getD 218 undef=_);refine Or.inl ⟨.slice (some ⟨b,off,none⟩) nd cd,?_,rfl⟩;have f0:=(HX.out.below (qW5 _) hC).cell 13 _ rfl;go_simp
            refine ⟨rq _ _ _ [(10,.int .i64 k)] ⟨⟨by kernel_rfl,rfl⟩,trivial⟩ ?_,?_⟩
            ·intro a w1 hC e10;refine Or.inl ⟨.int .i64 k,?_,rfl⟩;go_simp
            refine ⟨rq _ _ _ [] trivial ?_,?_⟩
            ·intro a w1 hC (h9:a.tmps.getD 219 undef=_) (h10:a.tmps.getD 220 undef=_);refine Or.inl ⟨_,?_,rfl⟩;go_simp
             first | (go_bits;rfl) | rfl | (rw [if_pos (by omega)])
            refine ⟨rq _ _ _ [] trivial ?_,?_⟩
            ·intro a w1 hC (h11:a.tmps.getD 221 undef=_);refine Or.inl ⟨_,?_,rfl⟩;go_simp;rfl
            refine ⟨rq _ _ _ [] trivial ?_,?_⟩
            ·intro a w1 hC (h12:a.tmps.getD 222 undef=_);refine Or.inl ⟨.slice a2 m2 k2,?_,rfl⟩;have f0:=(hC.cell (p:=⟨b,off + k * 2 + 1,none⟩) hbr).trans HE1.out
             try simp only [qXd] at f0
             go_simp
            refine ⟨rq _ _ _ [] trivial ?_,?_⟩
            ·intro a w1 hC (h13:a.tmps.getD 223 undef=_);refine Or.inr (Or.inl ⟨21,#[.slice a2 m2 k2,.int .i64 1010],?_,?_⟩)
             ·go_simp
             ·refine (qM4 a2 m2 k2 y2 w1 (HR2.out.below (HBW.out.trans (hC.mono HBW.out.size)))).mono ?_;rintro e w2 ⟨⟨rfl,_⟩,rfl⟩;exact ⟨_,rfl,rfl,qXh _ _⟩
            refine ⟨rq _ _ _ [] trivial ?_,?_⟩
            ·intro a w1 hC (h14:a.tmps.getD 224 undef=_) _;obtain ⟨v1,w2,hrun,hown,hbel⟩:=qE2 (P:=Tryz.prog) (w:=w1) 37 37 5 .u8 1 Tryz.underlying37 qG a2 (min m2 1010) k2 (y2.take 1010) (HR2.out.below (HBW.out.trans (hC.mono HBW.out.size))).shortD (by omega) (by omega);refine Or.inr (Or.inr ⟨v1,w2,?_,hown.lift hC.size,hbel⟩);exact qC6 rfl rfl h14 hrun
            refine ⟨rq _ _ _ [] trivial ?_,?_⟩
            ·intro a w1 hC (h7:a.tmps.getD 217 undef=_) h15;obtain ⟨o2,u2,e2,hx2⟩:=Own.bx h15;have e2:a.tmps.getD 225 undef=_:=e2;rw [qXn] at e2
             have h0z:a.tmps[217]?.getD undef=.int .i64 y1:=(by simpa using h7)
             refine Or.inl ⟨.agg #[.int .i64 y1,.slice o2 _ u2],?_,⟨[.int .i64 y1,.slice o2 _ u2],rfl,rfl,hx2.imp fun w b=>⟨_,_,_,rfl,b⟩⟩⟩;go_simp
            refine ⟨rq _ _ _ [] trivial ?_,?_⟩
            ·intro a w1 hC h16;obtain ⟨cs,e,_,hx⟩:=h16;obtain ⟨o2,n2,u2,rfl,_⟩:=hx.now;have e:a.tmps.getD 226 undef=.agg #[.int .i64 y1,.slice o2 n2 u2]:=e;rw [qXn] at e;refine Or.inr (Or.inr ⟨.slice (some ⟨w1.heap.size,0,none⟩) 1 1,w1.alloc (.cells #[.int .i64 y1,.slice o2 n2 u2] 44),?_,qCh.mk (cs:=[.int .i64 y1,.slice o2 n2 u2]) rfl (by simp [Value.oneCell']) hx,Bl.alloc (Bl.refl _) _⟩);go_simp
            exact trivial
           case hstD=>repeat (first | exact trivial | refine ⟨qB.is _,?_⟩ | refine ⟨qB.own _ _ _ _,?_⟩ | refine ⟨qB.ag,?_⟩ | refine ⟨qB.nw,?_⟩)
           case hendD =>
            intro w1 hC;rintro _ rfl _ rfl _ rfl _ rfl _ rfl _ rfl _ rfl _ rfl _ rfl _ rfl _ rfl _ rfl _ rfl _ rfl _ rfl;intro x15 h15;intro x16 h16;intro x17 h17;obtain ⟨qn,csn,rfl,hnl,hno,hnc,hnx⟩:=h17;simp only [xV,Act.put,qXj,qXp,qXo,qXm,qXv];have hs1:=hC.size
            go_wp2_with (at_builtin;apply jF)
            refine hid ?_;refine qQ rfl (.tmp 211) (.tmp 227) 31 rfl _ _ Tryz.underlying31 qR9 rfl (by decide) rfl (HO.out.below hC (qW8 _)) (qXk hsr hs1) qn csn rfl hnl hnc hno (yA ⟨y1,y2⟩) (hnx.more fun b hb=>⟨qXk hsr hb.1,hb.2,fun e=>by have:=(HO.out.lt b e).2;omega⟩) (by rw [HLL.out];omega) (by rw [HLL.out];omega) ?_;intro v2 w2 o1 o2;obtain ⟨vo2,vc2,hve2,_,_,_⟩:=o1.shape;rw [qW7,HLL.out] at hve2;obtain rfl:v2=.slice vo2 (k + 1) vc2:=hve2;obtain ⟨hb2,hc2,hp2,hs2⟩:=qAj HB.out HC.out HO.out HPR.out hpq hqS hsr hC o2 (qW5 _);have hck2:=hc2.cell 13 _ rfl;have hfk2:=hc2.fro 13 _ rfl
            have hq2:q < w2.heap.size:=(by omega)
            have HE:=hid (qAk hb2 hc2 o1 hp2 hpq hqS hs2 (by rw [HZ0.out];exact qW8 _) 13 (.slice vo2 (k + 1) vc2) (by simp));clear hb2 hc2 hp2 hs2 o1 o2 hnl hno hnc hnx hC hs1;go_wp2_with fail;clear hck2 hfk2;go_roundw
            case rel =>
             obtain ⟨e1,e2,e3,e4,e5⟩:=HE.out;exact ⟨k + 1,.slice vo2 (k + 1) vc2,by omega,by omega,by go_num,hid e1,hid e2,hid (by rw [HTF.out];exact e3),hid e4,hid e5⟩
            case measure=>simp [intOf];omega
          ·
           have htk:(D.take 18).map yA=(D.take k).map yA:=by
            rcases Nat.lt_or_ge k 18 with h3 | h3
            ·have h4:¬ k < nd:=fun h=>hk ⟨h,h3⟩
             rw [qW9 (by rw [HLd.out];omega),qW9 (by rw [HLd.out];omega)]
            ·rw [show k=18 by omega]
           obtain ⟨ao,cap,hsl,hrx⟩:=HO.out.bx;rw [HLL.out] at hsl hrx;obtain ⟨rfl,rfl⟩:vo=ao /\ vc=cap:=by simpa using hsl
           rw [<- htk] at hrx;have HPN:Hid (Bx (fun b=>p + 2 <= b /\ b < wr.heap.size /\ b ≠ q) wr (fun w=>Φ w /\ RdG 2 DaR w vo k vc ((D.take 18).map yA))):=hid ((HPR.out.more fun b hb=>⟨hb.1,qXr hb.2.1 hsr,hb.2.2⟩).imp2 (hrx.more fun b hb=>⟨by omega,hb.2,by omega⟩) fun w a b=>⟨a,b⟩);clear htk hrx hsl;rcases Nat.lt_or_ge k nd with h3 | h3
           ·have h4:¬ k < 18:=fun h=>hk ⟨h3,h⟩
            clear hk;go_wp2_with fail;go_meet
            case rel=>exact ⟨k,vo,k,vc,rfl,HB,HC,HPN,hid (by omega)⟩
           ·clear hk;go_wp2_with fail;go_meet
            case rel=>exact ⟨k,vo,k,vc,rfl,HB,HC,HPN,hid (by omega)⟩
        case rest =>
         obtain ⟨kk,pd,md,rd,rfl,HB,HC,HPV,HQS⟩:=hcut
         obtain ⟨ws,rfl⟩:∃ wo:World,wo=wc:=⟨_,rfl⟩
         obtain ⟨Φ,HFd,HPV⟩:=qB6 HPV;have HR:=hid (HR0.out.keep (show p + 1 < p + 2 by omega) HB.out)
         obtain ⟨wf,hwf⟩:∃ wf,((((((((((((((ws.setCell ⟨p + 1,0,none⟩ (.slice pt mt rt)).setCell ⟨p + 1,1,none⟩ (.slice pi mi ri)).setCell ⟨p + 1,2,none⟩ (.slice pf mf rf)).setCell ⟨p + 1,3,none⟩ (.bool th)).setCell ⟨p + 1,4,none⟩ (.int .i64 tm)).setCell ⟨p + 1,5,none⟩ (.int .i64 tx)).setCell ⟨p + 1,6,none⟩ (.bool mh)).setCell ⟨p + 1,7,none⟩ (.int .i64 mm)).setCell ⟨p + 1,8,none⟩ (.int .i64 mx)).setCell ⟨p + 1,9,none⟩ (.slice pg mg rg)).setCell ⟨p + 1,10,none⟩ (.slice pe me re)).setCell ⟨p + 1,11,none⟩ (.slice pl ml rl)).setCell ⟨p + 1,12,none⟩ (.slice pc mc rc)).setCell ⟨p + 1,13,none⟩ (.slice pd md rd))=wf:=⟨_,rfl⟩
         have hgA:ws.grownBy wf (some (p + 1)):=(by rw [<- hwf];exact (qC (qC (qC (qC (qC (qC (qC (qC (qC (qC (qC (qC (qC (qC (qO _ _) 0 _) 1 _) 2 _) 3 _) 4 _) 5 _) 6 _) 7 _) 8 _) 9 _) 10 _) 11 _) 12 _) 13 _))
         have HF:Hid (Cel wf (p + 1) [.slice pt mt rt,.slice pi mi ri,.slice pf mf rf,.bool th,.int .i64 tm,.int .i64 tx,.bool mh,.int .i64 mm,.int .i64 mx,.slice pg mg rg,.slice pe me re,.slice pl ml rl,.slice pc mc rc,.slice pd md rd]):=hid (hwf ▸ ((((((((((((((HR.out.set 0 (.slice pt mt rt) (by simp)).set 1 (.slice pi mi ri) (by simp)).set 2 (.slice pf mf rf) (by simp)).set 3 (.bool th) (by simp)).set 4 (.int .i64 tm) (by simp)).set 5 (.int .i64 tx) (by simp)).set 6 (.bool mh) (by simp)).set 7 (.int .i64 mm) (by simp)).set 8 (.int .i64 mx) (by simp)).set 9 (.slice pg mg rg) (by simp)).set 10 (.slice pe me re) (by simp)).set 11 (.slice pl ml rl) (by simp)).set 12 (.slice pc mc rc) (by simp)).set 13 (.slice pd md rd) (by simp)))
         have hsz:wf.heap.size=ws.heap.size:=(by rw [<- hwf];simp)
         have HPF:Hid (Bx (fun b=>w.heap.size <= b /\ b < wf.heap.size) wf (MoR ⟨⟨pt,mt,rt⟩,⟨pi,mi,ri⟩,⟨pf,mf,rf⟩,⟨pg,mg,rg⟩,⟨pe,me,re⟩,⟨pl,ml,rl⟩,⟨pc,mc,rc⟩,⟨pd,md,rd⟩⟩ ⟨(T.take 18).map vE,(I.take 18).map xX,F.take 18,⟨th,tm,tx⟩,⟨mh,mm,mx⟩,G.take 18,(E.take 18).map xY,(L.take 18).map xZ,(C.take 18).map vF,(D.take 18).map yA⟩)):=hid ((HPV.out.imp fun w h=>qU5 (HFd.out w h) (HFc.out w) (HFl.out w) (HFe.out w) (HFg.out w) (HFi.out w) (HFt.out w) (HFf.out w)).to (fun b hb=>hgA.block b hb.2.1 (fun e=>(by have e2:b=p + 1:=(by simpa using e);omega))) (fun b hb=>⟨by rw [HP.out];omega,by rw [hsz];exact hb.2.1⟩));have hpl:p + 1 < ws.heap.size:=by have:=HQS.out;omega
         have HBF:Hid (Below w.heap.size w wf):=hid (qAb (HB0.out.trans (HB.out.mono (by rw [HP.out];omega))) hgA (by have:=HQS.out;rw [HP.out];omega) (by rw [HP.out];omega));have HWF:=hid hwf;clear hwf hgA hsz;have a0:=HC.out.cell 0 _ rfl;have a1:=HC.out.cell 1 _ rfl;have a2:=HC.out.cell 2 _ rfl;have a3:=HC.out.cell 3 _ rfl;have a4:=HC.out.cell 4 _ rfl;have a5:=HC.out.cell 5 _ rfl;have a6:=HC.out.cell 6 _ rfl;have a7:=HC.out.cell 7 _ rfl;have a8:=HC.out.cell 8 _ rfl;have a9:=HC.out.cell 9 _ rfl;have a10:=HC.out.cell 10 _ rfl;have a11:=HC.out.cell 11 _ rfl;have a12:=HC.out.cell 12 _ rfl;have a13:=HC.out.cell 13 _ rfl;have d0:=HR.out.cell 0 _ rfl;have fd0:=HR.out.fro 0 _ rfl;have d1:=HR.out.cell 1 _ rfl;have fd1:=HR.out.fro 1 _ rfl;have d2:=HR.out.cell 2 _ rfl;have fd2:=HR.out.fro 2 _ rfl;have d3:=HR.out.cell 3 _ rfl;have fd3:=HR.out.fro 3 _ rfl;have d4:=HR.out.cell 4 _ rfl;have fd4:=HR.out.fro 4 _ rfl;have d5:=HR.out.cell 5 _ rfl;have fd5:=HR.out.fro 5 _ rfl;have d6:=HR.out.cell 6 _ rfl;have fd6:=HR.out.fro 6 _ rfl;have d7:=HR.out.cell 7 _ rfl;have fd7:=HR.out.fro 7 _ rfl;have d8:=HR.out.cell 8 _ rfl;have fd8:=HR.out.fro 8 _ rfl;have d9:=HR.out.cell 9 _ rfl;have fd9:=HR.out.fro 9 _ rfl;have d10:=HR.out.cell 10 _ rfl;have fd10:=HR.out.fro 10 _ rfl;have d11:=HR.out.cell 11 _ rfl;have fd11:=HR.out.fro 11 _ rfl;have d12:=HR.out.cell 12 _ rfl;have fd12:=HR.out.fro 12 _ rfl;have d13:=HR.out.cell 13 _ rfl;have fd13:=HR.out.fro 13 _ rfl;have hqs:=HQS.out
         repeat go_step
         clear a0 d0 fd0 a1 d1 fd1 a2 d2 fd2 a3 d3 fd3 a4 d4 fd4 a5 d5 fd5 a6 d6 fd6 a7 d7 fd7 a8 d8 fd8 a9 d9 fd9 a10 d10 fd10 a11 d11 fd11 a12 d12 fd12 a13 d13 fd13;rw [HWF.out];refine bodyPost_ret (v:=.agg #[.slice pt mt rt,.slice pi mi ri,.slice pf mf rf,.bool th,.int .i64 tm,.int .i64 tx,.bool mh,.int .i64 mm,.int .i64 mx,.slice pg mg rg,.slice pe me re,.slice pl ml rl,.slice pc mc rc,.slice pd md rd]) ?_ rfl ⟨⟨⟨pt,mt,rt⟩,⟨pi,mi,ri⟩,⟨pf,mf,rf⟩,⟨pg,mg,rg⟩,⟨pe,me,re⟩,⟨pl,ml,rl⟩,⟨pc,mc,rc⟩,⟨pd,md,rd⟩⟩,rfl,HPF.out,HBF.out⟩;have hc:=HF.out;have a0:=hc.cell 0 _ rfl;have a1:=hc.cell 1 _ rfl;have a2:=hc.cell 2 _ rfl;have a3:=hc.cell 3 _ rfl;have a4:=hc.cell 4 _ rfl;have a5:=hc.cell 5 _ rfl;have a6:=hc.cell 6 _ rfl;have a7:=hc.cell 7 _ rfl;have a8:=hc.cell 8 _ rfl;have a9:=hc.cell 9 _ rfl;have a10:=hc.cell 10 _ rfl;have a11:=hc.cell 11 _ rfl;have a12:=hc.cell 12 _ rfl;have a13:=hc.cell 13 _ rfl;simp [results,Tryz.results9,go_sem,a0,a1,a2,a3,a4,a5,a6,a7,a8,a9,a10,a11,a12,a13]
end Go.Proofs.YtbkofpljchkkaaaGreat
