/- Words: WaAllLaw. -/
import Derived.Test.YtbkofpljchkkaaaGreatMoInj
import Derived.Test.YtbkofpljchkkaaaGreatCut
import Derived.Test.YtbkofpljchkkaaaGreatWF
import Derived.Test.YtbkofpljchkkaaaGreatRefMay
import Derived.Test.YtbkofpljchkkaaaGreatRefEqM
import Derived.Test.YtbkofpljchkkaaaGreatWB
import Derived.Test.YtbkofpljchkkaaaGreatWE
import Derived.Test.YtbkofpljchkkaaaGreatWD
set_option maxRecDepth 100000
set_option maxHeartbeats 8000000
namespace Go.Proofs.YtbkofpljchkkaaaGreat
open Go.RowKit
theorem upA {x w v:World} {p q r:Nat} {V W:MoV} {M N:MMo} (hb:Below w.heap.size w v) (a:Hid (Cel w p (V.cells M))) (b:Hid (Cel w q (W.cells N))) (c:Hid (Rx w (MoR V M))) (d:Hid (Rx w (MoR W N))) (e:Hid (Below x.heap.size x w)) (f:r < w.heap.size):Hid (Cel v p (V.cells M)) /\ Hid (Cel v q (W.cells N)) /\ Hid (Rx v (MoR V M)) /\ Hid (Rx v (MoR W N)) /\ Hid (Below x.heap.size x v) /\ r < v.heap.size :=
 ⟨hid (a.out.below (qW5 _) hb),hid (b.out.below (qW5 _) hb),hid (c.out.below hb),hid (d.out.below hb),hid (e.out.trans (hb.mono e.out.size)),qXr f hb.size⟩
theorem wasmAll_walk (V1:MoV) (M1:MMo) (V2:MoV) (M2:MMo) (w:World) (h1:Rx w (MoR V1 M1)) (h2:Rx w (MoR V2 M2)) :
    Calls Tryz.prog 3 #[.agg (V1.cells M1).toArray,.agg (V2.cells M2).toArray] w fun e w'=>e=.returned (.bool true) /\ Below w.heap.size w w':=by
 obtain ⟨A0,A1,A2,A3,A4,A5,A6,A7,A8,A9,A10,A11,A12,A13,hv1⟩:=cells14 V1 M1
 rw [hv1]
 obtain ⟨B0,B1,B2,B3,B4,B5,B6,B7,B8,B9,B10,B11,B12,B13,hv2⟩:=cells14 V2 M2
 rw [hv2]
 obtain ⟨p,hp⟩:∃ p,w.heap.size=p:=⟨_,rfl⟩
 have hx0:Cel ((w.alloc (.cells #[A0,A1,A2,A3,A4,A5,A6,A7,A8,A9,A10,A11,A12,A13] 33)).alloc (.cells #[B0,B1,B2,B3,B4,B5,B6,B7,B8,B9,B10,B11,B12,B13] 33)) p [A0,A1,A2,A3,A4,A5,A6,A7,A8,A9,A10,A11,A12,A13]:=hp ▸ (Cel.new w [A0,A1,A2,A3,A4,A5,A6,A7,A8,A9,A10,A11,A12,A13] 33).below (qW5 _) (Bl.alloc (Bl.refl _) _)
 have hz1:(w.alloc (.cells #[A0,A1,A2,A3,A4,A5,A6,A7,A8,A9,A10,A11,A12,A13] 33)).heap.size=p + 1:=(by simp [hp])
 have hy0:Cel ((w.alloc (.cells #[A0,A1,A2,A3,A4,A5,A6,A7,A8,A9,A10,A11,A12,A13] 33)).alloc (.cells #[B0,B1,B2,B3,B4,B5,B6,B7,B8,B9,B10,B11,B12,B13] 33)) (p + 1) [B0,B1,B2,B3,B4,B5,B6,B7,B8,B9,B10,B11,B12,B13]:=by have h:=Cel.new (w.alloc (.cells #[A0,A1,A2,A3,A4,A5,A6,A7,A8,A9,A10,A11,A12,A13] 33)) [B0,B1,B2,B3,B4,B5,B6,B7,B8,B9,B10,B11,B12,B13] 33;rw [hz1] at h;exact h
 have hb:Below w.heap.size w ((w.alloc (.cells #[A0,A1,A2,A3,A4,A5,A6,A7,A8,A9,A10,A11,A12,A13] 33)).alloc (.cells #[B0,B1,B2,B3,B4,B5,B6,B7,B8,B9,B10,B11,B12,B13] 33)):=Bl.alloc (Bl.alloc (Bl.refl w) _) _
 obtain ⟨w0,hw0⟩:∃ w0,((w.alloc (.cells #[A0,A1,A2,A3,A4,A5,A6,A7,A8,A9,A10,A11,A12,A13] 33)).alloc (.cells #[B0,B1,B2,B3,B4,B5,B6,B7,B8,B9,B10,B11,B12,B13] 33))=w0:=⟨_,rfl⟩
 rw [hw0] at hx0 hy0 hb
 rw [<- hv1] at hx0;rw [<- hv2] at hy0
 have HC:=hid hx0;have HD:=hid hy0;have HB:=hid hb;have HR1:=hid (h1.below hb);have HR2:=hid (h2.below hb);have HW0:=hid hw0;have HV1:=hid hv1;have HV2:=hid hv2;have HP:=hid hp
 have hlp:p + 1 < w0.heap.size:=hy0.lt (qW5 _)
 clear h1 h2 hx0 hy0 hb hw0 hv1 hv2 hp hz1
 go_enter Tryz.func3,Tryz.ntmps3
 go_wp2_with fail
 rw [HW0.out,HP.out]
 clear HW0
 refine (qO1 w0).mono ?_
 rintro e w1 ⟨rfl,hb⟩
 have hu:=upA hb HC HD HR1 HR2 HB hlp;clear HC HD HR1 HR2 HB hlp;obtain ⟨HC,HD,HR1,HR2,HB,hlp⟩:=hu
 clear hb
 go_upto_region 4 with fail
 obtain ⟨wa,hwa⟩:∃ x,w1=x:=⟨_,rfl⟩
 rw [hwa] at HC HD HB HR1 HR2 hlp ⊢;clear hwa
 refine qD 4 (by kernel_rfl) [Is (mv V1 M1),IsMd wa.heap.size (qCd M1),Is (mv V2 M2),IsMd wa.heap.size (qCd M2)] _ rfl (by kernel_rfl) rfl (by kernel_rfl) ?hopA ?hstA ?hendA
 case hopA =>
  refine ⟨rq _ _ _ [(2,.pointer (some ⟨p,0,none⟩))] ⟨⟨by kernel_rfl,rfl⟩,trivial⟩ ?_,?_⟩
  ·intro a w1 hC e2;exact Or.inl ⟨_,load_mod rfl e2 (HC.out.below (qW5 _) hC),rfl⟩
  refine ⟨rq _ _ _ [] trivial ?_,?_⟩
  ·intro a w1 hC (h0:a.tmps.getD 13 undef=_);refine Or.inr (Or.inl ⟨9,#[mv V1 M1],?_,?_⟩)
   ·go_simp
   ·have hct:=qGs V1 M1 w1 (HR1.out.below hC);refine hct.mono ?_;rintro e w2 ⟨V',rfl,hx,hbel⟩;exact ⟨_,rfl,⟨V',rfl,hx.more fun b hb=>⟨qXk hC.size hb.1,hb.2⟩⟩,hbel⟩
  refine ⟨rq _ _ _ [(3,.pointer (some ⟨p + 1,0,none⟩))] ⟨⟨by kernel_rfl,rfl⟩,trivial⟩ ?_,?_⟩
  ·intro a w1 hC e3;exact Or.inl ⟨_,load_mod rfl e3 (HD.out.below (qW5 _) hC),rfl⟩
  refine ⟨rq _ _ _ [] trivial ?_,?_⟩
  ·intro a w1 hC (h2:a.tmps.getD 15 undef=_) h1;refine Or.inr (Or.inl ⟨9,#[mv V2 M2],?_,?_⟩)
   ·go_simp
   ·have hct:=qGs V2 M2 w1 (HR2.out.below hC);refine hct.mono ?_;rintro e w2 ⟨V',rfl,hx,hbel⟩;exact ⟨_,rfl,⟨V',rfl,hx.more fun b hb=>⟨qXk hC.size hb.1,hb.2⟩⟩,hbel⟩
  exact trivial
 case hstA=>repeat (first | exact trivial | refine ⟨qB.is _,?_⟩ | refine ⟨qB.md _ _,?_⟩)
 case hendA =>
  intro w1 hC;rintro _ rfl;intro x1 h1;rintro _ rfl;intro x3 h3;obtain ⟨V3,rfl,hx3⟩:=h1;obtain ⟨V4,rfl,hx4⟩:=h3
  obtain ⟨N1,hN1⟩:∃ N,qCd M1=N:=⟨_,rfl⟩
  obtain ⟨N2,hN2⟩:∃ N,qCd M2=N:=⟨_,rfl⟩
  have t1:=qL1 M1;have i1:=qRd M1;have u1:=qRe M1;have t2:=qL1 M2;have i2:=qRd M2;have u2:=qRe M2;rw [hN1] at hx3 t1 i1 u1 ⊢;rw [hN2] at hx4 t2 i2 u2 ⊢;have HT1:=hid t1;have HI1:=hid i1;have HU1:=hid u1;have HT2:=hid t2;have HI2:=hid i2;have HU2:=hid u2;clear t1 i1 u1 t2 i2 u2 hN1 hN2;obtain ⟨C0,C1,C2,C3,C4,C5,C6,C7,C8,C9,C10,C11,C12,C13,C14,C15,C16,C17,C18,C19,C20,C21,C22,C23,C24,C25,C26,C27,C28,C29,hv3⟩:=cellsX V3 N1;rw [hv3];obtain ⟨D0,D1,D2,D3,D4,D5,D6,D7,D8,D9,D10,D11,D12,D13,D14,D15,D16,D17,D18,D19,D20,D21,D22,D23,D24,D25,D26,D27,D28,D29,hv4⟩:=cellsX V4 N2;rw [hv4];have HV3:=hid hv3;have HV4:=hid hv4;clear hv3 hv4 HR1 HR2
  have hs1:=hC.size;have hla:p + 1 < wa.heap.size:=hlp;have hl1:p + 1 < w1.heap.size:=(by omega)
  have hc1:=HC.out.below (qW5 _) hC;have hd1:=HD.out.below (qW5 _) hC;rw [HV1.out] at hc1;rw [HV2.out] at hd1;have HC1:=hid hc1;have HD1:=hid hd1;clear hc1 hd1
  obtain ⟨w2,hw2⟩:∃ x,((((((((((((((w1.setCell ⟨p,0,none⟩ (.slice C0 C1 C2)).setCell ⟨p,1,none⟩ (.slice C3 C4 C5)).setCell ⟨p,2,none⟩ (.slice C6 C7 C8)).setCell ⟨p,3,none⟩ (.bool C9)).setCell ⟨p,4,none⟩ (.int .i64 C10)).setCell ⟨p,5,none⟩ (.int .i64 C11)).setCell ⟨p,6,none⟩ (.bool C12)).setCell ⟨p,7,none⟩ (.int .i64 C13)).setCell ⟨p,8,none⟩ (.int .i64 C14)).setCell ⟨p,9,none⟩ (.slice C15 C16 C17)).setCell ⟨p,10,none⟩ (.slice C18 C19 C20)).setCell ⟨p,11,none⟩ (.slice C21 C22 C23)).setCell ⟨p,12,none⟩ (.slice C24 C25 C26)).setCell ⟨p,13,none⟩ (.slice C27 C28 C29))=x:=⟨_,rfl⟩
  have hg2:w1.grownBy w2 (some p):=(by rw [<- hw2];exact (qC (qC (qC (qC (qC (qC (qC (qC (qC (qC (qC (qC (qC (qC (qO _ _) 0 _) 1 _) 2 _) 3 _) 4 _) 5 _) 6 _) 7 _) 8 _) 9 _) 10 _) 11 _) 12 _) 13 _))
  have HC2:=hid (show Cel w2 p [.slice C0 C1 C2,.slice C3 C4 C5,.slice C6 C7 C8,.bool C9,.int .i64 C10,.int .i64 C11,.bool C12,.int .i64 C13,.int .i64 C14,.slice C15 C16 C17,.slice C18 C19 C20,.slice C21 C22 C23,.slice C24 C25 C26,.slice C27 C28 C29] from hw2 ▸ ((((((((((((((HC1.out.set 0 (.slice C0 C1 C2) (by simp)).set 1 (.slice C3 C4 C5) (by simp)).set 2 (.slice C6 C7 C8) (by simp)).set 3 (.bool C9) (by simp)).set 4 (.int .i64 C10) (by simp)).set 5 (.int .i64 C11) (by simp)).set 6 (.bool C12) (by simp)).set 7 (.int .i64 C13) (by simp)).set 8 (.int .i64 C14) (by simp)).set 9 (.slice C15 C16 C17) (by simp)).set 10 (.slice C18 C19 C20) (by simp)).set 11 (.slice C21 C22 C23) (by simp)).set 12 (.slice C24 C25 C26) (by simp)).set 13 (.slice C27 C28 C29) (by simp)));have HD2:=hid (HD1.out.grown (qW5 _) hg2 (by simp))
  obtain ⟨w3,hw3⟩:∃ x,((((((((((((((w2.setCell ⟨p + 1,0,none⟩ (.slice D0 D1 D2)).setCell ⟨p + 1,1,none⟩ (.slice D3 D4 D5)).setCell ⟨p + 1,2,none⟩ (.slice D6 D7 D8)).setCell ⟨p + 1,3,none⟩ (.bool D9)).setCell ⟨p + 1,4,none⟩ (.int .i64 D10)).setCell ⟨p + 1,5,none⟩ (.int .i64 D11)).setCell ⟨p + 1,6,none⟩ (.bool D12)).setCell ⟨p + 1,7,none⟩ (.int .i64 D13)).setCell ⟨p + 1,8,none⟩ (.int .i64 D14)).setCell ⟨p + 1,9,none⟩ (.slice D15 D16 D17)).setCell ⟨p + 1,10,none⟩ (.slice D18 D19 D20)).setCell ⟨p + 1,11,none⟩ (.slice D21 D22 D23)).setCell ⟨p + 1,12,none⟩ (.slice D24 D25 D26)).setCell ⟨p + 1,13,none⟩ (.slice D27 D28 D29))=x:=⟨_,rfl⟩
  have hg3:w2.grownBy w3 (some (p + 1)):=(by rw [<- hw3];exact (qC (qC (qC (qC (qC (qC (qC (qC (qC (qC (qC (qC (qC (qC (qO _ _) 0 _) 1 _) 2 _) 3 _) 4 _) 5 _) 6 _) 7 _) 8 _) 9 _) 10 _) 11 _) 12 _) 13 _))
  have HD3:=hid (show Cel w3 (p + 1) [.slice D0 D1 D2,.slice D3 D4 D5,.slice D6 D7 D8,.bool D9,.int .i64 D10,.int .i64 D11,.bool D12,.int .i64 D13,.int .i64 D14,.slice D15 D16 D17,.slice D18 D19 D20,.slice D21 D22 D23,.slice D24 D25 D26,.slice D27 D28 D29] from hw3 ▸ ((((((((((((((HD2.out.set 0 (.slice D0 D1 D2) (by simp)).set 1 (.slice D3 D4 D5) (by simp)).set 2 (.slice D6 D7 D8) (by simp)).set 3 (.bool D9) (by simp)).set 4 (.int .i64 D10) (by simp)).set 5 (.int .i64 D11) (by simp)).set 6 (.bool D12) (by simp)).set 7 (.int .i64 D13) (by simp)).set 8 (.int .i64 D14) (by simp)).set 9 (.slice D15 D16 D17) (by simp)).set 10 (.slice D18 D19 D20) (by simp)).set 11 (.slice D21 D22 D23) (by simp)).set 12 (.slice D24 D25 D26) (by simp)).set 13 (.slice D27 D28 D29) (by simp)));have HC3:=hid (HC2.out.grown (qW5 _) hg3 (by simp))
  have hsz2:w2.heap.size=w1.heap.size:=(by rw [<- hw2];simp)
  have hsz3:w3.heap.size=w1.heap.size:=by rw [<- hw3];simp [hsz2]
  have hkp:∀ b,wa.heap.size <= b /\ b < w1.heap.size -> w3.heap[b]?=w1.heap[b]?:=fun b hb=>(hg3.block b (by omega) (fun e=>by (have e2:b=p + 1:=(by simpa using e);omega))).trans (hg2.block b hb.2 (fun e=>by (have e2:b=p:=(by simpa using e);omega)))
  have HR1:Hid (Rx w3 (MoR V3 N1)):=hid (hx3.to hkp (fun b hb=>by rw [hsz3];exact hb.2));have HR2:Hid (Rx w3 (MoR V4 N2)):=hid (hx4.to hkp (fun b hb=>by rw [hsz3];exact hb.2));have hpp:=HP.out;replace HB:Hid (Below w.heap.size w w3):=hid (qAb (qAb (HB.out.trans (hC.mono HB.out.size)) hg2 (by have:=HB.out.size;omega) (by omega)) hg3 (by have:=HB.out.size;rw [hsz2];omega) (by omega));replace hlp:p + 1 < w3.heap.size:=by rw [hsz3];exact hl1
  have hl2:p + 1 < w2.heap.size:=(by rw [hsz2];exact hl1)
  have HW2:=hid hw2;have HW3:=hid hw3;have a0:=HC1.out.cell 0 _ rfl;have fa0:=HC1.out.fro 0 _ rfl;have a1:=HC1.out.cell 1 _ rfl;have fa1:=HC1.out.fro 1 _ rfl;have a2:=HC1.out.cell 2 _ rfl;have fa2:=HC1.out.fro 2 _ rfl;have a3:=HC1.out.cell 3 _ rfl;have fa3:=HC1.out.fro 3 _ rfl;have a4:=HC1.out.cell 4 _ rfl;have fa4:=HC1.out.fro 4 _ rfl;have a5:=HC1.out.cell 5 _ rfl;have fa5:=HC1.out.fro 5 _ rfl;have a6:=HC1.out.cell 6 _ rfl;have fa6:=HC1.out.fro 6 _ rfl;have a7:=HC1.out.cell 7 _ rfl;have fa7:=HC1.out.fro 7 _ rfl;have a8:=HC1.out.cell 8 _ rfl;have fa8:=HC1.out.fro 8 _ rfl;have a9:=HC1.out.cell 9 _ rfl;have fa9:=HC1.out.fro 9 _ rfl;have a10:=HC1.out.cell 10 _ rfl;have fa10:=HC1.out.fro 10 _ rfl;have a11:=HC1.out.cell 11 _ rfl;have fa11:=HC1.out.fro 11 _ rfl;have a12:=HC1.out.cell 12 _ rfl;have fa12:=HC1.out.fro 12 _ rfl;have a13:=HC1.out.cell 13 _ rfl;have fa13:=HC1.out.fro 13 _ rfl;clear hkp hsz2 hsz3 hg2 hg3 hx3 hx4 hw2 hw3 hC hs1 hpp;have b0:=HD1.out.cell 0 _ rfl;have fb0:=HD1.out.fro 0 _ rfl;have b1:=HD1.out.cell 1 _ rfl;have fb1:=HD1.out.fro 1 _ rfl;have b2:=HD1.out.cell 2 _ rfl;have fb2:=HD1.out.fro 2 _ rfl;have b3:=HD1.out.cell 3 _ rfl;have fb3:=HD1.out.fro 3 _ rfl;have b4:=HD1.out.cell 4 _ rfl;have fb4:=HD1.out.fro 4 _ rfl;have b5:=HD1.out.cell 5 _ rfl;have fb5:=HD1.out.fro 5 _ rfl;have b6:=HD1.out.cell 6 _ rfl;have fb6:=HD1.out.fro 6 _ rfl;have b7:=HD1.out.cell 7 _ rfl;have fb7:=HD1.out.fro 7 _ rfl;have b8:=HD1.out.cell 8 _ rfl;have fb8:=HD1.out.fro 8 _ rfl;have b9:=HD1.out.cell 9 _ rfl;have fb9:=HD1.out.fro 9 _ rfl;have b10:=HD1.out.cell 10 _ rfl;have fb10:=HD1.out.fro 10 _ rfl;have b11:=HD1.out.cell 11 _ rfl;have fb11:=HD1.out.fro 11 _ rfl;have b12:=HD1.out.cell 12 _ rfl;have fb12:=HD1.out.fro 12 _ rfl;have b13:=HD1.out.cell 13 _ rfl;have fb13:=HD1.out.fro 13 _ rfl;simp only [xV,Act.put,qXj,qXp,qXo,qXm,qXv]
  repeat go_step
  clear a0 fa0 a1 fa1 a2 fa2 a3 fa3 a4 fa4 a5 fa5 a6 fa6 a7 fa7 a8 fa8 a9 fa9 a10 fa10 a11 fa11 a12 fa12 a13 fa13;clear b0 fb0 b1 fb1 b2 fb2 b3 fb3 b4 fb4 b5 fb5 b6 fb6 b7 fb7 b8 fb8 b9 fb9 b10 fb10 b11 fb11 b12 fb12 b13 fb13;rw [HW2.out,HW3.out];have hc:=HC3.out;have hd:=HD3.out;rw [<- HV3.out] at hc;rw [<- HV4.out] at hd;have HC:=hid hc;have HD:=hid hd;clear HC3 HD3 HC2 HD1 hc hd HV1 HV2;have hc:=HC.out;rw [HV3.out] at hc;have c0:=hc.cell 0 _ rfl;have c1:=hc.cell 1 _ rfl;have c2:=hc.cell 2 _ rfl;have c3:=hc.cell 3 _ rfl;have c4:=hc.cell 4 _ rfl;have c5:=hc.cell 5 _ rfl;have c6:=hc.cell 6 _ rfl;have c7:=hc.cell 7 _ rfl;have c8:=hc.cell 8 _ rfl;have c9:=hc.cell 9 _ rfl;have c10:=hc.cell 10 _ rfl;have c11:=hc.cell 11 _ rfl;have c12:=hc.cell 12 _ rfl;have c13:=hc.cell 13 _ rfl;clear hc;have hmy:=qNq V3 N1 w3 HR1.out HT1.out HI1.out HU1.out;rw [HV3.out] at hmy;have HMY:=hid hmy;clear hmy;clear HW2 HW3 hl1 hl2 hla HC1 HD2;go_wp2_with fail;clear c0 c1 c2 c3 c4 c5 c6 c7 c8 c9 c10 c11 c12 c13;refine HMY.out.mono ?_;rintro e w4 ⟨rfl,hb⟩;have hu:=upA hb HC HD HR1 HR2 HB hlp;clear HC HD HR1 HR2 HB hlp;obtain ⟨HC,HD,HR1,HR2,HB,hlp⟩:=hu;clear hb HMY;have hen:=qBe V3 N1 w4 HR1.out HI1.out HU1.out;rw [HV3.out] at hen;have HEN:=hid hen;clear hen;have hc:=HC.out;rw [HV3.out] at hc;have c0:=hc.cell 0 _ rfl;have c1:=hc.cell 1 _ rfl;have c2:=hc.cell 2 _ rfl;have c3:=hc.cell 3 _ rfl;have c4:=hc.cell 4 _ rfl;have c5:=hc.cell 5 _ rfl;have c6:=hc.cell 6 _ rfl;have c7:=hc.cell 7 _ rfl;have c8:=hc.cell 8 _ rfl;have c9:=hc.cell 9 _ rfl;have c10:=hc.cell 10 _ rfl;have c11:=hc.cell 11 _ rfl;have c12:=hc.cell 12 _ rfl;have c13:=hc.cell 13 _ rfl;clear hc;go_wp2_with fail;clear c0 c1 c2 c3 c4 c5 c6 c7 c8 c9 c10 c11 c12 c13;refine HEN.out.mono ?_;rintro e w5 ⟨v,rfl,ho,hb⟩;have hu:=upA hb HC HD HR1 HR2 HB hlp;clear HC HD HR1 HR2 HB hlp;obtain ⟨HC,HD,HR1,HR2,HB,hlp⟩:=hu;obtain ⟨bo,bc,rfl,hrd⟩:=ho.rd;have HRD:=hid hrd;clear hrd ho hb HEN
  obtain ⟨eb,heb⟩:∃ b,qAr N1 N2=b:=⟨_,rfl⟩
  have HEB:=hid heb;clear heb
  obtain ⟨my,hmy⟩:∃ b,jT N1=b:=⟨_,rfl⟩
  rw [hmy];have HMY:=hid hmy;clear hmy
  obtain ⟨el,hel⟩:∃ n,(qQ7 N1).length=n:=⟨_,rfl⟩
  rw [hel] at HRD ⊢;have HEL:=hid hel;clear hel;go_upto_region 7 with fail
  obtain ⟨wb,hwb⟩:∃ x,w5=x:=⟨_,rfl⟩
  rw [hwb] at HC HD HB HR1 HR2 hlp HRD ⊢;clear hwb;refine qCw (by kernel_rfl) [Is (mv V3 N1),Is (.bool my),Is (.bool my),Is (.bool false),Is (.bool false),Is (mv V3 N1),Is (mv V4 N2),Is (.bool eb),Is (mv V3 N1),Is (mv V4 N2),Is (.bool eb),Is (.bool false),Is (.bool false),Is (.bool false),Is (mv V3 N1),Is (mv V3 N1),Is (.bool true),Is (.bool false),Is (.bool false)] _ rfl (by kernel_rfl) rfl ?hopB ?hstB ?hendB
  case hopB =>
   refine ⟨rq _ _ _ [(2,.pointer (some ⟨p,0,none⟩))] ⟨⟨by kernel_rfl,rfl⟩,trivial⟩ ?_,?_⟩
   ·intro a w1 hC e2;exact Or.inl ⟨_,load_mod rfl e2 (HC.out.below (qW5 _) hC),rfl⟩
   refine ⟨rq _ _ _ [] trivial ?_,?_⟩
   ·intro a w1 hC (h0:a.tmps.getD 21 undef=_);refine Or.inr (Or.inl ⟨12,#[mv V3 N1],?_,?_⟩)
    ·go_simp
    ·have hct:=uG V3 N1 w1 (HR1.out.below hC) HI1.out HU1.out;rw [HMY.out] at hct;refine hct.mono ?_;rintro e w2 ⟨rfl,hb⟩;exact ⟨_,rfl,rfl,hb⟩
   refine ⟨rq _ _ _ [(6,.bool my)] ⟨⟨by kernel_rfl,rfl⟩,trivial⟩ ?_,?_⟩
   ·intro a w1 hC e6;refine Or.inl ⟨.bool my,?_,rfl⟩;go_simp
   refine ⟨rq _ _ _ [] trivial ?_,?_⟩
   ·intro a w1 hC (h1:a.tmps.getD 22 undef=_) (h2:a.tmps.getD 23 undef=_);refine Or.inl ⟨.bool false,?_,rfl⟩;go_simp
    all_goals (first | rfl | simp)
   refine ⟨rq _ _ _ [] trivial ?_,?_⟩
   ·intro a w1 hC (h3:a.tmps.getD 24 undef=_) (h1:a.tmps.getD 22 undef=_);refine Or.inl ⟨.bool false,?_,rfl⟩;go_simp
   refine ⟨rq _ _ _ [(2,.pointer (some ⟨p,0,none⟩))] ⟨⟨by kernel_rfl,rfl⟩,trivial⟩ ?_,?_⟩
   ·intro a w1 hC e2 (h4:a.tmps.getD 25 undef=_);refine Or.inl ⟨h4,?_⟩;exact Or.inl ⟨_,load_mod rfl e2 (HC.out.below (qW5 _) hC),rfl⟩
   refine ⟨rq _ _ _ [(3,.pointer (some ⟨p + 1,0,none⟩))] ⟨⟨by kernel_rfl,rfl⟩,trivial⟩ ?_,?_⟩
   ·intro a w1 hC e3 (h4:a.tmps.getD 25 undef=_);refine Or.inl ⟨h4,?_⟩;exact Or.inl ⟨_,load_mod rfl e3 (HD.out.below (qW5 _) hC),rfl⟩
   refine ⟨rq _ _ _ [] trivial ?_,?_⟩
   ·intro a w1 hC (h5:a.tmps.getD 26 undef=_) (h6:a.tmps.getD 27 undef=_) (h4:a.tmps.getD 25 undef=_) _;refine Or.inl ⟨h4,?_⟩;refine Or.inr (Or.inl ⟨13,#[mv V3 N1,mv V4 N2],?_,?_⟩)
    ·go_simp
    ·have hct:=qEz V3 V4 N1 N2 w1 (HR1.out.below hC) (HR2.out.below hC);rw [HEB.out] at hct;refine hct.mono ?_;rintro e w2 ⟨rfl,hb⟩;exact ⟨_,rfl,rfl,hb⟩
   refine ⟨rq _ _ _ [(2,.pointer (some ⟨p,0,none⟩))] ⟨⟨by kernel_rfl,rfl⟩,trivial⟩ ?_,?_⟩
   ·intro a w1 hC e2 (h4:a.tmps.getD 25 undef=_);refine Or.inl ⟨h4,?_⟩;exact Or.inl ⟨_,load_mod rfl e2 (HC.out.below (qW5 _) hC),rfl⟩
   refine ⟨rq _ _ _ [(3,.pointer (some ⟨p + 1,0,none⟩))] ⟨⟨by kernel_rfl,rfl⟩,trivial⟩ ?_,?_⟩
   ·intro a w1 hC e3 (h4:a.tmps.getD 25 undef=_);refine Or.inl ⟨h4,?_⟩;exact Or.inl ⟨_,load_mod rfl e3 (HD.out.below (qW5 _) hC),rfl⟩
   refine ⟨rq _ _ _ [] trivial ?_,?_⟩
   ·intro a w1 hC (h8:a.tmps.getD 29 undef=_) (h9:a.tmps.getD 30 undef=_) (h7:a.tmps.getD 28 undef=_) (h4:a.tmps.getD 25 undef=_);refine Or.inl ⟨h4,?_⟩;refine Or.inr (Or.inl ⟨14,#[mv V3 N1,mv V4 N2],?_,?_⟩)
    ·go_simp
    ·have hct:=qVv V3 V4 N1 N2 w1 (HR1.out.below hC) (HR2.out.below hC);rw [HEB.out] at hct;refine hct.mono ?_;rintro e w2 ⟨rfl,hb⟩;exact ⟨_,rfl,rfl,hb⟩
   refine ⟨rq _ _ _ [] trivial ?_,?_⟩
   ·intro a w1 hC (h7:a.tmps.getD 28 undef=_) (h10:a.tmps.getD 31 undef=_) (h4:a.tmps.getD 25 undef=_);refine Or.inl ⟨h4,?_⟩;refine Or.inl ⟨.bool false,?_,rfl⟩;go_simp
    all_goals (first | rfl | simp)
   refine ⟨rq _ _ _ [] trivial ?_,?_⟩
   ·intro a w1 hC (h4:a.tmps.getD 25 undef=_) (h11:a.tmps.getD 32 undef=_);refine Or.inl ⟨.bool false,?_,rfl⟩;go_simp
   refine ⟨rq _ _ _ [] trivial ?_,?_⟩
   ·intro a w1 hC (h12:a.tmps.getD 33 undef=_) (h10:a.tmps.getD 31 undef=_);refine Or.inl ⟨.bool false,?_,rfl⟩;go_simp
   refine ⟨rq _ _ _ [(2,.pointer (some ⟨p,0,none⟩))] ⟨⟨by kernel_rfl,rfl⟩,trivial⟩ ?_,?_⟩
   ·intro a w1 hC e2 (h13:a.tmps.getD 34 undef=_);refine Or.inl ⟨h13,?_⟩;exact Or.inl ⟨_,load_mod rfl e2 (HC.out.below (qW5 _) hC),rfl⟩
   refine ⟨rq _ _ _ [(2,.pointer (some ⟨p,0,none⟩))] ⟨⟨by kernel_rfl,rfl⟩,trivial⟩ ?_,?_⟩
   ·intro a w1 hC e2 (h13:a.tmps.getD 34 undef=_);refine Or.inl ⟨h13,?_⟩;exact Or.inl ⟨_,load_mod rfl e2 (HC.out.below (qW5 _) hC),rfl⟩
   refine ⟨rq _ _ _ [] trivial ?_,?_⟩
   ·intro a w1 hC (h14:a.tmps.getD 35 undef=_) (h15:a.tmps.getD 36 undef=_) (h13:a.tmps.getD 34 undef=_) _;refine Or.inl ⟨h13,?_⟩;refine Or.inr (Or.inl ⟨13,#[mv V3 N1,mv V3 N1],?_,?_⟩)
    ·go_simp
    ·have hct:=qEz V3 V3 N1 N1 w1 (HR1.out.below hC) (HR1.out.below hC);rw [qOg] at hct;refine hct.mono ?_;rintro e w2 ⟨rfl,hb⟩;exact ⟨_,rfl,rfl,hb⟩
   refine ⟨rq _ _ _ [] trivial ?_,?_⟩
   ·intro a w1 hC (h16:a.tmps.getD 37 undef=_) (h13:a.tmps.getD 34 undef=_);refine Or.inl ⟨h13,?_⟩;refine Or.inl ⟨.bool false,?_,rfl⟩;go_simp
   refine ⟨rq _ _ _ [] trivial ?_,?_⟩
   ·intro a w1 hC (h13:a.tmps.getD 34 undef=_) (h17:a.tmps.getD 38 undef=_);refine Or.inl ⟨.bool false,?_,rfl⟩;go_simp
   exact trivial
  case hstB=>repeat (first | exact trivial | refine ⟨qB.is _,?_⟩)
  case hendB =>
   intro w1 hC;rintro _ rfl _ rfl _ rfl _ rfl _ rfl _ rfl _ rfl _ rfl _ rfl _ rfl _ rfl _ rfl _ rfl _ rfl _ rfl _ rfl _ rfl _ rfl _ rfl;have hb:=hC;have hu:=upA hb HC HD HR1 HR2 HB hlp;clear HC HD HR1 HR2 HB hlp;obtain ⟨HC,HD,HR1,HR2,HB,hlp⟩:=hu;replace HRD:=hid (HRD.out.below hb);clear hb hC;simp only [xV,Act.put,qXj,qXp,qXo]
   obtain ⟨wc,hwc⟩:∃ x,w1=x:=⟨_,rfl⟩
   rw [hwc] at HC HD HB HR1 HR2 hlp HRD ⊢;clear hwc
   cases my with
   | false =>
     have h0:el=0:=by rw [<- HEL.out];unfold qQ7;rw [if_neg (by rw [HMY.out];decide)];rfl
     subst h0;go_wp2_with fail;go_ret;exact ⟨rfl,HB.out⟩
   | true =>
     have hen:qQ7 N1=moE N1:=by unfold qQ7;rw [if_pos HMY.out]
     rw [hen] at HRD HEL;clear hen;have okM:MoOk N1:=qVw HR1.out.now;have hde:=qKi bo el bc N1 wc HRD.out HMY.out okM;have HDE:=hid hde;have HO1:=hid okM;clear hde okM;go_wp2_with fail;refine HDE.out.mono ?_;rintro e w6 ⟨V5,rfl,hx5,hb⟩;have hu:=upA hb HC HD HR1 HR2 HB hlp;clear HC HD HR1 HR2 HB hlp;obtain ⟨HC,HD,HR1,HR2,HB,hlp⟩:=hu;replace HRD:=hid (HRD.out.below hb);have hx5:Rx w6 (MoR V5 N1):=hx5.more fun b hb=>hb.2;obtain ⟨E0,E1,E2,E3,E4,E5,E6,E7,E8,E9,E10,E11,E12,E13,E14,E15,E16,E17,E18,E19,E20,E21,E22,E23,E24,E25,E26,E27,E28,E29,hv5⟩:=cellsX V5 N1;rw [hv5]
     obtain ⟨q,hq⟩:∃ q,w6.heap.size=q:=⟨_,rfl⟩
     have hcq:Cel (w6.alloc (.cells #[.slice E0 E1 E2,.slice E3 E4 E5,.slice E6 E7 E8,.bool E9,.int .i64 E10,.int .i64 E11,.bool E12,.int .i64 E13,.int .i64 E14,.slice E15 E16 E17,.slice E18 E19 E20,.slice E21 E22 E23,.slice E24 E25 E26,.slice E27 E28 E29] 33)) q [.slice E0 E1 E2,.slice E3 E4 E5,.slice E6 E7 E8,.bool E9,.int .i64 E10,.int .i64 E11,.bool E12,.int .i64 E13,.int .i64 E14,.slice E15 E16 E17,.slice E18 E19 E20,.slice E21 E22 E23,.slice E24 E25 E26,.slice E27 E28 E29]:=hq ▸ Cel.new w6 [.slice E0 E1 E2,.slice E3 E4 E5,.slice E6 E7 E8,.bool E9,.int .i64 E10,.int .i64 E11,.bool E12,.int .i64 E13,.int .i64 E14,.slice E15 E16 E17,.slice E18 E19 E20,.slice E21 E22 E23,.slice E24 E25 E26,.slice E27 E28 E29] 33;clear hb;have hb:Below w6.heap.size w6 (w6.alloc (.cells #[.slice E0 E1 E2,.slice E3 E4 E5,.slice E6 E7 E8,.bool E9,.int .i64 E10,.int .i64 E11,.bool E12,.int .i64 E13,.int .i64 E14,.slice E15 E16 E17,.slice E18 E19 E20,.slice E21 E22 E23,.slice E24 E25 E26,.slice E27 E28 E29] 33)):=Bl.alloc (Bl.refl w6) _
     obtain ⟨wd,hwd⟩:∃ x,(w6.alloc (.cells #[.slice E0 E1 E2,.slice E3 E4 E5,.slice E6 E7 E8,.bool E9,.int .i64 E10,.int .i64 E11,.bool E12,.int .i64 E13,.int .i64 E14,.slice E15 E16 E17,.slice E18 E19 E20,.slice E21 E22 E23,.slice E24 E25 E26,.slice E27 E28 E29] 33))=x:=⟨_,rfl⟩
     rw [hwd] at hcq hb;rw [<- hv5] at hcq;have hu:=upA hb HC HD HR1 HR2 HB hlp;clear HC HD HR1 HR2 HB hlp;obtain ⟨HC,HD,HR1,HR2,HB,hlp⟩:=hu;replace HRD:=hid (HRD.out.below hb);have HR5:=hid (hx5.below hb);have HE:=hid hcq;have HWD:=hid hwd;have HV5:=hid hv5;have HQ:=hid hq;clear hb hx5 hcq hwd hv5 hq HDE;have hlq:q < wd.heap.size:=HE.out.lt (qW5 _);go_upto_region 12 with fail;rw [HWD.out,HQ.out];clear HWD HQ
     obtain ⟨s1,hs1⟩:∃ s,strOfNums (moE N1)=s:=⟨_,rfl⟩
     have HS1:=hid hs1;clear hs1;have hmp:qF0 N1=true /\ qV N1=true:=by have h:=HMY.out;simp only [jT,qXi] at h;exact ⟨qO2 h.1.1,h.1.2⟩
     have HMP:=hid hmp;clear hmp;refine qCw (by kernel_rfl) [Is (.slice bo el bc),Is (.string s1),Is (mv V3 N1),jM .u8 (moE N1),Is (.string s1),Is (.bool false),Is (.bool false),Is (.int .i64 0),Is (.bool false),Is (.bool false),Is (.bool false),Is (mv V5 N1),Is (mv V3 N1),Is (.bool true),Is (.bool false),Is (.bool false)] _ rfl (by kernel_rfl) rfl ?hopC ?hstC ?hendC
     case hopC =>
      refine ⟨rq _ _ _ [(7,.slice bo el bc)] ⟨⟨by kernel_rfl,rfl⟩,trivial⟩ ?_,?_⟩
      ·intro a w1 hC e7;refine Or.inl ⟨.slice bo el bc,?_,rfl⟩;go_simp
      refine ⟨rq _ _ _ [] trivial ?_,?_⟩
      ·intro a w1 hC (h0:a.tmps.getD 50 undef=_);refine Or.inl ⟨.string s1,?_,rfl⟩;have hcv:=xP (P:=Tryz.prog) (HRD.out.below hC) 37 9 5 Tryz.underlying37 Tryz.underlying5 Tryz.underlying9;rw [HS1.out] at hcv;go_simp
      refine ⟨rq _ _ _ [(2,.pointer (some ⟨p,0,none⟩))] ⟨⟨by kernel_rfl,rfl⟩,trivial⟩ ?_,?_⟩
      ·intro a w1 hC e2;exact Or.inl ⟨_,load_mod rfl e2 (HC.out.below (qW5 _) hC),rfl⟩
      refine ⟨rq _ _ _ [] trivial ?_,?_⟩
      ·intro a w1 hC (h2:a.tmps.getD 52 undef=_);refine Or.inr (Or.inl ⟨16,#[mv V3 N1],?_,?_⟩)
       ·go_simp
       ·have hct:=qIo V3 N1 w1 (HR1.out.below hC) HMP.out.1 HMP.out.2;refine hct.mono ?_;rintro e w2 ⟨vv,rfl,hown,hbel⟩;obtain ⟨ao1,cap1,rfl,hrd⟩:=hown.rd;exact ⟨_,rfl,⟨ao1,cap1,rfl,hrd⟩,hbel⟩
      refine ⟨rq _ _ _ [] trivial ?_,?_⟩
      ·intro a w1 hC h3;obtain ⟨ao1,cap1,e5,hrd⟩:=h3;have e5:a.tmps.getD 53 undef=_:=e5;refine Or.inl ⟨.string s1,?_,rfl⟩;have hcv:=xP (P:=Tryz.prog) hrd 37 9 5 Tryz.underlying37 Tryz.underlying5 Tryz.underlying9;rw [HS1.out] at hcv;go_simp
      refine ⟨rq _ _ _ [] trivial ?_,?_⟩
      ·intro a w1 hC (h1:a.tmps.getD 51 undef=_) (h4:a.tmps.getD 54 undef=_);refine Or.inl ⟨.bool false,?_,rfl⟩;go_simp
       all_goals (first | rfl | simp)
      refine ⟨rq _ _ _ [] trivial ?_,?_⟩
      ·intro a w1 hC (h5:a.tmps.getD 55 undef=_) h3;refine Or.inl ⟨.bool false,?_,rfl⟩;go_simp
      refine ⟨rq _ _ _ [(9,.int .i64 0)] ⟨⟨by kernel_rfl,rfl⟩,trivial⟩ ?_,?_⟩
      ·intro a w1 hC e9 (h6:a.tmps.getD 56 undef=_);refine Or.inl ⟨h6,?_⟩;refine Or.inl ⟨.int .i64 0,?_,rfl⟩;go_simp
      refine ⟨rq _ _ _ [] trivial ?_,?_⟩
      ·intro a w1 hC (h7:a.tmps.getD 57 undef=_) (h6:a.tmps.getD 56 undef=_);refine Or.inl ⟨h6,?_⟩;refine Or.inl ⟨.bool false,?_,rfl⟩;go_simp
       all_goals (first | rfl | simp)
      refine ⟨rq _ _ _ [] trivial ?_,?_⟩
      ·intro a w1 hC (h6:a.tmps.getD 56 undef=_) (h8:a.tmps.getD 58 undef=_);refine Or.inl ⟨.bool false,?_,rfl⟩;go_simp
      refine ⟨rq _ _ _ [] trivial ?_,?_⟩
      ·intro a w1 hC (h9:a.tmps.getD 59 undef=_) (h6:a.tmps.getD 56 undef=_);refine Or.inl ⟨.bool false,?_,rfl⟩;go_simp
      refine ⟨rq _ _ _ [(8,.pointer (some ⟨q,0,none⟩))] ⟨⟨by kernel_rfl,rfl⟩,trivial⟩ ?_,?_⟩
      ·intro a w1 hC e8 (h10:a.tmps.getD 60 undef=_);refine Or.inl ⟨h10,?_⟩;exact Or.inl ⟨_,load_mod rfl e8 (HE.out.below (qW5 _) hC),rfl⟩
      refine ⟨rq _ _ _ [(2,.pointer (some ⟨p,0,none⟩))] ⟨⟨by kernel_rfl,rfl⟩,trivial⟩ ?_,?_⟩
      ·intro a w1 hC e2 (h10:a.tmps.getD 60 undef=_);refine Or.inl ⟨h10,?_⟩;exact Or.inl ⟨_,load_mod rfl e2 (HC.out.below (qW5 _) hC),rfl⟩
      refine ⟨rq _ _ _ [] trivial ?_,?_⟩
      ·intro a w1 hC (h11:a.tmps.getD 61 undef=_) (h12:a.tmps.getD 62 undef=_) (h10:a.tmps.getD 60 undef=_) _;refine Or.inl ⟨h10,?_⟩;refine Or.inr (Or.inl ⟨14,#[mv V5 N1,mv V3 N1],?_,?_⟩)
       ·go_simp
       ·have hct:=qVv V5 V3 N1 N1 w1 (HR5.out.below hC) (HR1.out.below hC);rw [qOg] at hct;refine hct.mono ?_;rintro e w2 ⟨rfl,hb⟩;exact ⟨_,rfl,rfl,hb⟩
      refine ⟨rq _ _ _ [] trivial ?_,?_⟩
      ·intro a w1 hC (h13:a.tmps.getD 63 undef=_) (h10:a.tmps.getD 60 undef=_);refine Or.inl ⟨h10,?_⟩;refine Or.inl ⟨.bool false,?_,rfl⟩;go_simp
      refine ⟨rq _ _ _ [] trivial ?_,?_⟩
      ·intro a w1 hC (h10:a.tmps.getD 60 undef=_) (h14:a.tmps.getD 64 undef=_);refine Or.inl ⟨.bool false,?_,rfl⟩;go_simp
      exact trivial
     case hstC=>repeat (first | exact trivial | refine ⟨qB.is _,?_⟩ | refine ⟨qB.rd _ _,?_⟩)
     case hendC =>
      intro w1 hC;rintro _ rfl _ rfl _ rfl;intro x3 h3;rintro _ rfl _ rfl _ rfl _ rfl _ rfl _ rfl _ rfl _ rfl _ rfl _ rfl _ rfl _ rfl;have hb:=hC;have hu:=upA hb HC HD HR1 HR2 HB hlp;clear HC HD HR1 HR2 HB hlp;obtain ⟨HC,HD,HR1,HR2,HB,hlp⟩:=hu;replace HRD:=hid (HRD.out.below hb);clear hb hC HE HR5 hlq;simp only [xV,Act.put,qXj,qXp,qXo];skip
      obtain ⟨we,hwe⟩:∃ x,w1=x:=⟨_,rfl⟩
      rw [hwe] at HC HD HB HR1 HR2 hlp HRD ⊢;clear hwe
      obtain ⟨m2,hm2⟩:∃ b,jT N2=b:=⟨_,rfl⟩
      have HM2:=hid hm2;clear hm2;go_upto_region 14 with fail
      cases m2 with
      | false =>
        refine qCw (by kernel_rfl) [Is (mv V4 N2),Is (.bool false),Is (.bool true),Is (.bool true),Is ?vD4,Is ?vD5,Is ?vD6,Is ?vD7,Is ?vD8,Is ?vD9,Is ?vD10,Is ?vD11,Is ?vD12,Is ?vD13,Is (.bool true),Is (.bool true)] _ rfl (by kernel_rfl) rfl ?hopD ?hstD ?hendD
        case hopD =>
         refine ⟨rq _ _ _ [(3,.pointer (some ⟨p + 1,0,none⟩))] ⟨⟨by kernel_rfl,rfl⟩,trivial⟩ ?_,?_⟩
         ·intro a w1 hC e3;exact Or.inl ⟨_,load_mod rfl e3 (HD.out.below (qW5 _) hC),rfl⟩
         refine ⟨rq _ _ _ [] trivial ?_,?_⟩
         ·intro a w1 hC (h0:a.tmps.getD 66 undef=_);refine Or.inr (Or.inl ⟨10,#[mv V4 N2],?_,?_⟩)
          ·go_simp
          ·have hct:=qNq V4 N2 w1 (HR2.out.below hC) HT2.out HI2.out HU2.out;rw [HM2.out] at hct;refine hct.mono ?_;rintro e w2 ⟨rfl,hb⟩;exact ⟨_,rfl,rfl,hb⟩
         refine ⟨rq _ _ _ [] trivial ?_,?_⟩
         ·intro a w1 hC (h1:a.tmps.getD 67 undef=_);refine Or.inl ⟨.bool true,?_,rfl⟩;go_simp
         refine ⟨rq _ _ _ [] trivial ?_,?_⟩
         ·intro a w1 hC (h2:a.tmps.getD 68 undef=_) (h1:a.tmps.getD 67 undef=_);refine Or.inl ⟨.bool true,?_,rfl⟩;go_simp
         refine ⟨rq _ _ _ [(3,.pointer (some ⟨p + 1,0,none⟩))] ⟨⟨by kernel_rfl,rfl⟩,trivial⟩ ?_,?_⟩
         ·intro a w1 hC e3 (h3:a.tmps.getD 69 undef=_);refine Or.inr ⟨fun hh=>?_,?_⟩
          ·have:=h3.symm.trans hh;cases this
          ·rfl
         refine ⟨rq _ _ _ [] trivial ?_,?_⟩
         ·intro a w1 hC (h4:a.tmps.getD 70 undef=_) (h3:a.tmps.getD 69 undef=_) _;refine Or.inr ⟨fun hh=>?_,?_⟩
          ·have:=h3.symm.trans hh;cases this
          ·rfl
         refine ⟨rq _ _ _ [] trivial ?_,?_⟩
         ·intro a w1 hC (h5:a.tmps.getD 71 undef=_) (h3:a.tmps.getD 69 undef=_);refine Or.inr ⟨fun hh=>?_,?_⟩
          ·have:=h3.symm.trans hh;cases this
          ·rfl
         refine ⟨rq _ _ _ [(7,.slice bo el bc)] ⟨⟨by kernel_rfl,rfl⟩,trivial⟩ ?_,?_⟩
         ·intro a w1 hC e7 (h3:a.tmps.getD 69 undef=_);refine Or.inr ⟨fun hh=>?_,?_⟩
          ·have:=h3.symm.trans hh;cases this
          ·rfl
         refine ⟨rq _ _ _ [] trivial ?_,?_⟩
         ·intro a w1 hC (h7:a.tmps.getD 73 undef=_) (h3:a.tmps.getD 69 undef=_);refine Or.inr ⟨fun hh=>?_,?_⟩
          ·have:=h3.symm.trans hh;cases this
          ·rfl
         refine ⟨rq _ _ _ [] trivial ?_,?_⟩
         ·intro a w1 hC (h6:a.tmps.getD 72 undef=_) (h8:a.tmps.getD 74 undef=_) (h3:a.tmps.getD 69 undef=_);refine Or.inr ⟨fun hh=>?_,?_⟩
          ·have:=h3.symm.trans hh;cases this
          ·rfl
         refine ⟨rq _ _ _ [(2,.pointer (some ⟨p,0,none⟩))] ⟨⟨by kernel_rfl,rfl⟩,trivial⟩ ?_,?_⟩
         ·intro a w1 hC e2 (h3:a.tmps.getD 69 undef=_);refine Or.inr ⟨fun hh=>?_,?_⟩
          ·have:=h3.symm.trans hh;cases this
          ·rfl
         refine ⟨rq _ _ _ [(3,.pointer (some ⟨p + 1,0,none⟩))] ⟨⟨by kernel_rfl,rfl⟩,trivial⟩ ?_,?_⟩
         ·intro a w1 hC e3 (h3:a.tmps.getD 69 undef=_);refine Or.inr ⟨fun hh=>?_,?_⟩
          ·have:=h3.symm.trans hh;cases this
          ·rfl
         refine ⟨rq _ _ _ [] trivial ?_,?_⟩
         ·intro a w1 hC (h10:a.tmps.getD 76 undef=_) (h11:a.tmps.getD 77 undef=_) (h5:a.tmps.getD 71 undef=_) (h3:a.tmps.getD 69 undef=_);refine Or.inr ⟨fun hh=>?_,?_⟩
          ·have:=h3.symm.trans hh;cases this
          ·rfl
         refine ⟨rq _ _ _ [] trivial ?_,?_⟩
         ·intro a w1 hC (h9:a.tmps.getD 75 undef=_) (h12:a.tmps.getD 78 undef=_) (h3:a.tmps.getD 69 undef=_);refine Or.inr ⟨fun hh=>?_,?_⟩
          ·have:=h3.symm.trans hh;cases this
          ·rfl
         refine ⟨rq _ _ _ [] trivial ?_,?_⟩
         ·intro a w1 hC (h3:a.tmps.getD 69 undef=_) (h13:a.tmps.getD 79 undef=_);refine Or.inl ⟨.bool true,?_,rfl⟩;go_simp
         refine ⟨rq _ _ _ [] trivial ?_,?_⟩
         ·intro a w1 hC (h14:a.tmps.getD 80 undef=_) (h12:a.tmps.getD 78 undef=_) (h0:a.tmps.getD 66 undef=_) (h1:a.tmps.getD 67 undef=_) (h2:a.tmps.getD 68 undef=_) (h3:a.tmps.getD 69 undef=_) (h4:a.tmps.getD 70 undef=_) (h5:a.tmps.getD 71 undef=_) (h6:a.tmps.getD 72 undef=_) (h7:a.tmps.getD 73 undef=_) (h8:a.tmps.getD 74 undef=_) (h9:a.tmps.getD 75 undef=_) (h10:a.tmps.getD 76 undef=_) (h11:a.tmps.getD 77 undef=_) _ (h13:a.tmps.getD 79 undef=_) _;refine Or.inl ⟨.bool true,?_,rfl⟩;go_simp
         exact trivial
        case hstD=>repeat (first | exact trivial | refine ⟨qB.is _,?_⟩)
        case hendD =>
         intro w1 hC;rintro _ rfl _ rfl _ rfl _ rfl _ rfl _ rfl _ rfl _ rfl _ rfl _ rfl _ rfl _ rfl _ rfl _ rfl _ rfl _ rfl;simp only [xV,Act.put,qXj,qXp,qXo];go_wp2_with fail;go_ret;exact ⟨rfl,HB.out.trans (hC.mono HB.out.size)⟩
      | true =>
        obtain ⟨s2,hs2⟩:∃ s,strOfNums (moE N2)=s:=⟨_,rfl⟩
        have HS2:=hid hs2;clear hs2;have hen:qQ7 N2=moE N2:=by unfold qQ7;rw [if_pos HM2.out]
        have HEN:=hid hen;clear hen;refine qCw (by kernel_rfl) [Is (mv V4 N2),Is (.bool true),Is (.bool false),Is (.bool false),Is (mv V4 N2),jM .u8 (moE N2),IsSt s2 (moE N2),Is (.slice bo el bc),Is (.string s1),Is (.bool eb),Is (mv V3 N1),Is (mv V4 N2),Is (.bool eb),Is (.bool true),Is (.bool true),Is (.bool true)] _ rfl (by kernel_rfl) rfl ?hopE ?hstE ?hendE
        case hopE =>
         refine ⟨rq _ _ _ [(3,.pointer (some ⟨p + 1,0,none⟩))] ⟨⟨by kernel_rfl,rfl⟩,trivial⟩ ?_,?_⟩
         ·intro a w1 hC e3;exact Or.inl ⟨_,load_mod rfl e3 (HD.out.below (qW5 _) hC),rfl⟩
         refine ⟨rq _ _ _ [] trivial ?_,?_⟩
         ·intro a w1 hC (h0:a.tmps.getD 66 undef=_);refine Or.inr (Or.inl ⟨10,#[mv V4 N2],?_,?_⟩)
          ·go_simp
          ·have hct:=qNq V4 N2 w1 (HR2.out.below hC) HT2.out HI2.out HU2.out;rw [HM2.out] at hct;refine hct.mono ?_;rintro e w2 ⟨rfl,hb⟩;exact ⟨_,rfl,rfl,hb⟩
         refine ⟨rq _ _ _ [] trivial ?_,?_⟩
         ·intro a w1 hC (h1:a.tmps.getD 67 undef=_);refine Or.inl ⟨.bool false,?_,rfl⟩;go_simp
         refine ⟨rq _ _ _ [] trivial ?_,?_⟩
         ·intro a w1 hC (h2:a.tmps.getD 68 undef=_) (h1:a.tmps.getD 67 undef=_);refine Or.inl ⟨.bool false,?_,rfl⟩;go_simp
         refine ⟨rq _ _ _ [(3,.pointer (some ⟨p + 1,0,none⟩))] ⟨⟨by kernel_rfl,rfl⟩,trivial⟩ ?_,?_⟩
         ·intro a w1 hC e3 (h3:a.tmps.getD 69 undef=_);refine Or.inl ⟨h3,?_⟩;exact Or.inl ⟨_,load_mod rfl e3 (HD.out.below (qW5 _) hC),rfl⟩
         refine ⟨rq _ _ _ [] trivial ?_,?_⟩
         ·intro a w1 hC (h4:a.tmps.getD 70 undef=_) (h3:a.tmps.getD 69 undef=_) _;refine Or.inl ⟨h3,?_⟩;refine Or.inr (Or.inl ⟨11,#[mv V4 N2],?_,?_⟩)
          ·go_simp
          ·have hct:=qBe V4 N2 w1 (HR2.out.below hC) HI2.out HU2.out;rw [HEN.out] at hct;refine hct.mono ?_;rintro e w2 ⟨vv,rfl,hown,hbel⟩;obtain ⟨ao1,cap1,rfl,hrd⟩:=hown.rd;exact ⟨_,rfl,⟨ao1,cap1,rfl,hrd⟩,hbel⟩
         refine ⟨rq _ _ _ [] trivial ?_,?_⟩
         ·intro a w1 hC h5 (h3:a.tmps.getD 69 undef=_);refine Or.inl ⟨h3,?_⟩;obtain ⟨ao1,cap1,e5,hrd⟩:=h5;have e5:a.tmps.getD 71 undef=_:=e5;refine Or.inl ⟨.string s2,?_,rfl,fun x hx=>bounds_u8 (hrd.wf x hx)⟩;have hcv:=xP (P:=Tryz.prog) hrd 37 9 5 Tryz.underlying37 Tryz.underlying5 Tryz.underlying9;rw [HS2.out] at hcv;go_simp
         refine ⟨rq _ _ _ [(7,.slice bo el bc)] ⟨⟨by kernel_rfl,rfl⟩,trivial⟩ ?_,?_⟩
         ·intro a w1 hC e7 (h3:a.tmps.getD 69 undef=_);refine Or.inl ⟨h3,?_⟩;refine Or.inl ⟨.slice bo el bc,?_,rfl⟩;go_simp
         refine ⟨rq _ _ _ [] trivial ?_,?_⟩
         ·intro a w1 hC (h7:a.tmps.getD 73 undef=_) (h3:a.tmps.getD 69 undef=_);refine Or.inl ⟨h3,?_⟩;refine Or.inl ⟨.string s1,?_,rfl⟩;have hcv:=xP (P:=Tryz.prog) (HRD.out.below hC) 37 9 5 Tryz.underlying37 Tryz.underlying5 Tryz.underlying9;rw [HS1.out] at hcv;go_simp
         refine ⟨rq _ _ _ [] trivial ?_,?_⟩
         ·intro a w1 hC h6 (h8:a.tmps.getD 74 undef=_) (h3:a.tmps.getD 69 undef=_);refine Or.inl ⟨h3,?_⟩;obtain ⟨e6,hbs⟩:=h6;have e6:a.tmps.getD 72 undef=_:=e6
          have hcw:(s2.toList == s1.toList)=eb:=(by rw [<- HS2.out,<- HS1.out,<- HEB.out];exact mo_text HMY.out HM2.out (qVw HR1.out.now) (qVw HR2.out.now) (fun x hx=>bounds_u8 (HRD.out.wf x hx)) hbs)
          refine Or.inl ⟨.bool eb,?_,rfl⟩;go_simp
         refine ⟨rq _ _ _ [(2,.pointer (some ⟨p,0,none⟩))] ⟨⟨by kernel_rfl,rfl⟩,trivial⟩ ?_,?_⟩
         ·intro a w1 hC e2 (h3:a.tmps.getD 69 undef=_);refine Or.inl ⟨h3,?_⟩;exact Or.inl ⟨_,load_mod rfl e2 (HC.out.below (qW5 _) hC),rfl⟩
         refine ⟨rq _ _ _ [(3,.pointer (some ⟨p + 1,0,none⟩))] ⟨⟨by kernel_rfl,rfl⟩,trivial⟩ ?_,?_⟩
         ·intro a w1 hC e3 (h3:a.tmps.getD 69 undef=_);refine Or.inl ⟨h3,?_⟩;exact Or.inl ⟨_,load_mod rfl e3 (HD.out.below (qW5 _) hC),rfl⟩
         refine ⟨rq _ _ _ [] trivial ?_,?_⟩
         ·intro a w1 hC (h10:a.tmps.getD 76 undef=_) (h11:a.tmps.getD 77 undef=_) h5 (h3:a.tmps.getD 69 undef=_);refine Or.inl ⟨h3,?_⟩;refine Or.inr (Or.inl ⟨14,#[mv V3 N1,mv V4 N2],?_,?_⟩)
          ·go_simp
          ·have hct:=qVv V3 V4 N1 N2 w1 (HR1.out.below hC) (HR2.out.below hC);rw [HEB.out] at hct;refine hct.mono ?_;rintro e w2 ⟨rfl,hb⟩;exact ⟨_,rfl,rfl,hb⟩
         refine ⟨rq _ _ _ [] trivial ?_,?_⟩
         ·intro a w1 hC (h9:a.tmps.getD 75 undef=_) (h12:a.tmps.getD 78 undef=_) (h3:a.tmps.getD 69 undef=_);refine Or.inl ⟨h3,?_⟩;refine Or.inl ⟨.bool true,?_,rfl⟩;go_simp
          all_goals (first | rfl | simp)
         refine ⟨rq _ _ _ [] trivial ?_,?_⟩
         ·intro a w1 hC (h3:a.tmps.getD 69 undef=_) (h13:a.tmps.getD 79 undef=_);refine Or.inl ⟨.bool true,?_,rfl⟩;go_simp
         refine ⟨rq _ _ _ [] trivial ?_,?_⟩
         ·intro a w1 hC (h14:a.tmps.getD 80 undef=_) (h12:a.tmps.getD 78 undef=_) (h0:a.tmps.getD 66 undef=_) (h1:a.tmps.getD 67 undef=_) (h2:a.tmps.getD 68 undef=_) (h3:a.tmps.getD 69 undef=_) (h4:a.tmps.getD 70 undef=_) h5 h6 (h7:a.tmps.getD 73 undef=_) (h8:a.tmps.getD 74 undef=_) (h9:a.tmps.getD 75 undef=_) (h10:a.tmps.getD 76 undef=_) (h11:a.tmps.getD 77 undef=_) _ (h13:a.tmps.getD 79 undef=_) _;refine Or.inl ⟨.bool true,?_,rfl⟩;go_simp
         exact trivial
        case hstE=>repeat (first | exact trivial | refine ⟨qB.is _,?_⟩ | refine ⟨qB.rd _ _,?_⟩ | refine ⟨qB.st _ _,?_⟩)
        case hendE =>
         intro w1 hC;rintro _ rfl _ rfl _ rfl _ rfl _ rfl;intro x5 h5;intro x6 h6;rintro _ rfl _ rfl _ rfl _ rfl _ rfl _ rfl _ rfl _ rfl _ rfl;simp only [xV,Act.put,qXj,qXp,qXo];go_wp2_with fail;go_ret;exact ⟨rfl,HB.out.trans (hC.mono HB.out.size)⟩
end Go.Proofs.YtbkofpljchkkaaaGreat
