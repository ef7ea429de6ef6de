/- Words: WaLongLaw. -/
import Derived.Deep.RegionLaw
import Derived.Test.YtbkofpljchkkaaaGreatWaLongM
namespace Go.Proofs.YtbkofpljchkkaaaGreat
open Go.RowKit
set_option maxRecDepth 100000 in
set_option maxHeartbeats 4000000 in
theorem wasmLong_in (n m:Nat) (w:World) (hn:n <= 1000) (hm:m <= 9) :
    Calls Tryz.prog 4 #[.int .i64 n,.int .i64 m] w fun e w'=>e=.returned (.bool true) /\ Below w.heap.size w w':=by
 have hb:=begun_to w
 have HBG:=hid hb
 clear hb
 have hd1:decide ((n:Int) < 0)=false:=by simp
 have hd2:decide ((1000:Int) < n)=false:=by simp;omega
 have hd3:decide ((m:Int) < 0)=false:=by simp
 have hd4:decide ((9:Int) < m)=false:=by simp;omega
 go_enter Tryz.func4,Tryz.ntmps4
 go_wp2_with fail
 refine HBG.out.mono ?_
 rintro e w1 ⟨rfl,hb⟩
 have HB1:=hid hb;have hsz1:=hb.size;clear hb HBG
 obtain ⟨p,hp⟩:∃ p,w1.heap.size=p:=⟨_,rfl⟩
 have hc0:=Cel.new w1 [.slice none 0 0,.slice none 0 0,.slice none 0 0,.bool false,.int .i64 0,.int .i64 0,.bool true,.int .i64 16,.int .i64 (-1),.slice none 0 0,.slice none 0 0,.slice none 0 0,.slice none 0 0,.slice none 0 0] 33
 have hb0:Below w1.heap.size w1 (w1.alloc (.cells #[.slice none 0 0,.slice none 0 0,.slice none 0 0,.bool false,.int .i64 0,.int .i64 0,.bool true,.int .i64 16,.int .i64 (-1),.slice none 0 0,.slice none 0 0,.slice none 0 0,.slice none 0 0,.slice none 0 0] 33)):=Bl.alloc (Bl.refl w1) _
 have hz0:(w1.alloc (.cells #[.slice none 0 0,.slice none 0 0,.slice none 0 0,.bool false,.int .i64 0,.int .i64 0,.bool true,.int .i64 16,.int .i64 (-1),.slice none 0 0,.slice none 0 0,.slice none 0 0,.slice none 0 0,.slice none 0 0] 33)).heap.size=p + 1:=by simp [hp]
 have HC0:=hid hc0;have HB0:=hid (HB1.out.trans (hb0.mono hsz1));have HZ0:=hid hz0;have HP:=hid hp
 clear hc0 hb0 hz0
 go_wp2_with fail
 rw [HP.out] at HC0
 rw [HP.out] at hsz1
 clear hp hd1 hd2 hd3 hd4
 obtain ⟨w0,hw0⟩:∃ w0,w1.alloc (.cells #[.slice none 0 0,.slice none 0 0,.slice none 0 0,.bool false,.int .i64 0,.int .i64 0,.bool true,.int .i64 16,.int .i64 (-1),.slice none 0 0,.slice none 0 0,.slice none 0 0,.slice none 0 0,.slice none 0 0] 33)=w0:=⟨_,rfl⟩
 rw [hw0] at HC0 HB0 HZ0 ⊢
 clear hw0
 have hz0:=HZ0.out
 go_loopw [7] (fun i wr=>∃ (k:Nat) (v:Value),k <= m /\ i=.int .i64 k /\ Hid (Cel wr p [.slice none 0 0,.slice none 0 0,.slice none 0 0,.bool false,.int .i64 0,.int .i64 0,.bool true,.int .i64 16,.int .i64 (-1),.slice none 0 0,.slice none 0 0,.slice none 0 0,.slice none 0 0,v]) /\ Hid (OwnG 44 2 DaR (p + 1) wr v (List.replicate k ⟨0,List.replicate n 0⟩)) /\ Hid (Below w.heap.size w wr) /\ Hid (p < wr.heap.size)) (fun i _=>m - (intOf i).toNat)
 case atStart=>exact ⟨0,_,Nat.zero_le _,rfl,HC0,hid (OwnG.nil _ _ _ _ _),HB0,hid (by omega)⟩
 case round =>
  obtain ⟨k,v,hkn,rfl,HC,HO,HB,HPL⟩:=hrel
  have hpl:=HPL.out
  obtain ⟨vo,vc,rfl,hsh1,hsh2,hsh3⟩:=HO.out.shape
  have hll:(List.replicate k (⟨0,List.replicate n 0⟩:MDa)).length=k:=by simp
  rw [hll] at HO HC hsh1
  clear hsh3
  by_cases hk:k < m
  ·
   obtain ⟨q,hq⟩:∃ q,wr.heap.size=q:=⟨_,rfl⟩
   obtain ⟨wm,hmk,ho,hb2,hz2⟩:=make_u8 n (by omega) wr.drew
   have hqd:wr.drew.heap.size=q:=hq
   rw [hqd] at hmk ho hb2 hz2
   have HQ:=hid hq
   have HCM:=hid (HC.out.below (Nat.succ_pos _) (show Below wr.heap.size wr wm from by rw [hq];exact (show Below q wr wr.drew from ⟨rfl,rfl,rfl,Nat.le_refl _,fun _ _=>rfl⟩).trans hb2))
   have HOM:=hid (HO.out.below (show Below wr.heap.size wr wm from by rw [hq];exact (show Below q wr wr.drew from ⟨rfl,rfl,rfl,Nat.le_refl _,fun _ _=>rfl⟩).trans hb2) (Nat.le_refl _))
   have HBM:=hid (HB.out.trans (show Below w.heap.size wr wm from ((show Below q wr wr.drew from ⟨rfl,rfl,rfl,Nat.le_refl _,fun _ _=>rfl⟩).trans hb2).mono (by have:=HB.out.size;omega)))
   have HZ2:=hid hz2
   have hlt:=HO.out.lt
   have HLT:=hid hlt
   obtain ⟨zo,zc,hzv,hzx⟩:=ho.bx
   have HZX:Hid (Bx (fun b=>q <= b /\ b < wm.heap.size) wm fun w=>Rd .u8 w (some ⟨q,0,none⟩) n n (List.replicate n 0)):=hid (by
    have e:zo=some ⟨q,0,none⟩ /\ zc=n:=by simp at hzv;exact ⟨hzv.1.symm,hzv.2.symm⟩
    obtain ⟨rfl,rfl⟩:=e
    simpa using hzx)
   have hck:=HC.out.cell 13 _ rfl
   have hcm:=HCM.out.cell 13 _ rfl
   have hpm:p < wm.heap.size:=by omega
   clear hlt hzv hzx ho hb2
   have hca:=(HCM.out.below (Nat.succ_pos _) (Bl.alloc (Bl.refl wm) (.cells #[.int .i64 0,.slice (some ⟨q,0,none⟩) n n] 44))).cell 13 _ rfl
   have HB63:=hid (show (List.replicate k (⟨0,List.replicate n 0⟩:MDa)).length + 1 <= 4611686018427387904 by rw [hll];omega)
   have HB47:=hid (show ((List.replicate k (⟨0,List.replicate n 0⟩:MDa)).length + 1) * 32 <= 140737488355328 by rw [hll];omega)
   have HNW:Hid (∀ j u,[Value.int .i64 0,.slice (some ⟨q,0,none⟩) n n][j]?=some u -> (wm.alloc (.cells #[.int .i64 0,.slice (some ⟨q,0,none⟩) n n] 44)).cell? ⟨q + 1,j,none⟩=some u):=hid (fun j u hu=>by have h:=(Cel.new wm [.int .i64 0,.slice (some ⟨q,0,none⟩) n n] 44).cell j u hu;rw [hz2] at h;exact h)
   have HRB:Hid (Bx (fun b=>p + 1 <= b /\ b < (wm.alloc (.cells #[.int .i64 0,.slice (some ⟨q,0,none⟩) n n] 44)).heap.size /\ (Value.slice vo k vc).ownBlock ≠ some b) (wm.alloc (.cells #[.int .i64 0,.slice (some ⟨q,0,none⟩) n n] 44)) fun w=>DaR w [.int .i64 0,.slice (some ⟨q,0,none⟩) n n] ⟨0,List.replicate n 0⟩):=hid (HZX.out.imp (fun w h=>(⟨_,_,_,rfl,h⟩:DaR w [.int .i64 0,.slice (some ⟨q,0,none⟩) n n] ⟨0,List.replicate n 0⟩)) |>.to (fun b hb=>Below.heap_alloc wm _ b hb.2) (fun b hb=>⟨by omega,by simp;omega,fun e=>by have:=(HLT.out b e).2;have:=HQ.out;omega⟩))
   have hszp:p + 1 <= (wm.alloc (.cells #[.int .i64 0,.slice (some ⟨q,0,none⟩) n n] 44)).heap.size:=by simp;omega
   have HSP:=hid hszp;clear hszp
   go_wp2_with fail
   go_region_law (refine step_append_g rfl (.tmp 39) (.tmp 43) 31 rfl _ _ Tryz.underlying31 infoDa rfl (by decide) (v:=.slice vo k vc) rfl (HOM.out.alloc (.cells #[.int .i64 0,.slice (some ⟨q,0,none⟩) n n] 44)) HSP.out (q + 1) [.int .i64 0,.slice (some ⟨q,0,none⟩) n n] rfl rfl HNW.out (by simp [Value.oneCell']) (⟨0,List.replicate n 0⟩) HRB.out HB63.out HB47.out ?_;intro v2 w2 o1 hsh o2;obtain ⟨vo2,vc2,hve⟩:=hsh;rw [hll] at hve;obtain rfl:v2=.slice vo2 (k + 1) vc2:=hve;have HL:=hid (long_mid HCM.out HBM.out HOM.out.lt o1 o2 (by omega) (Nat.succ_pos _));have m1:=HL.out.1.cell 13 _ rfl;have m2:=HL.out.1.fro 13 _ rfl;have HO2:=hid o1;clear o1 o2)
   all_goals
    have hc2:=HL.out.1;have hb2:=HL.out.2.1;have hp2:=HL.out.2.2
    have HC2:=hid hc2;have HB2:=hid hb2;have HP2:=hid hp2
    clear m1 m2 HL hc2 hb2 hp2 hck hcm hca
    go_wp2_with fail
    go_roundw
    case rel =>
     refine ⟨k + 1,.slice vo2 (k + 1) vc2,by omega,by go_num,hid ?_,hid ?_,hid ?_,hid ?_⟩
     ·exact HC2.out.set 13 _ (by simp)
     ·rw [List.replicate_succ'];exact HO2.out.kept (grown_set w2 ⟨p,13,none⟩ _) (fun q e=>by have h:p=q:=(by simpa using e);omega)
     ·exact HB2.out.setCell (p:=⟨p,13,none⟩) hsz1 _
     ·have:=HP2.out;simpa using this
    case measure=>simp [intOf];omega
  ·
   have e0:k=m:=by omega
   subst e0
   obtain ⟨ao,cap,hsl,hrx⟩:=HO.out.rx
   rw [hll] at hsl hrx
   obtain ⟨rfl,rfl⟩:vo=ao /\ vc=cap:=by simpa using hsl
   obtain ⟨V,hV⟩:∃ V:MoV,V=⟨⟨none,0,0⟩,⟨none,0,0⟩,⟨none,0,0⟩,⟨none,0,0⟩,⟨none,0,0⟩,⟨none,0,0⟩,⟨none,0,0⟩,⟨vo,k,vc⟩⟩:=⟨_,rfl⟩
   obtain ⟨M,hM⟩:∃ M:MMo,M=loM n k:=⟨_,rfl⟩
   have HRX:Hid (Rx wr (MoR V M)):=hid (by rw [hV,hM];exact hrx.imp fun w h=>⟨RdG.empty w,RdG.empty w,Rd.empty w .i64,RdG.empty w,RdG.empty w,RdG.empty w,RdG.empty w,h⟩)
   have hcs:V.cells M=[.slice none 0 0,.slice none 0 0,.slice none 0 0,.bool false,.int .i64 0,.int .i64 0,.bool true,.int .i64 16,.int .i64 (-1),.slice none 0 0,.slice none 0 0,.slice none 0 0,.slice none 0 0,.slice vo k vc]:=by rw [hV,hM];rfl
   have hok:MoOk M:=by rw [hM];exact lo_ok n k
   have hcp:=lo_may n k hn hm
   rw [<- hM] at hcp
   have hoi:M.imports.length <= 1000000:=by rw [hM];simp [loM]
   have hof:M.funcs.length <= 1000000:=by rw [hM];simp [loM]
   have hmt:M.table.has=false /\ M.table.mn=0 /\ M.table.mx=0 /\ M.mem.has=true /\ M.mem.mn=16 /\ M.mem.mx=-1:=by rw [hM];exact ⟨rfl,rfl,rfl,rfl,rfl,rfl⟩
   have HCS:=hid hcs;have HOK:=hid hok;have HCP:=hid hcp;have HOI:=hid hoi;have HOF:=hid hof;have HMT:=hid hmt
   clear hsl hrx hV hM hcs hll HO HP HZ0 HC0 HB0 hsh1 hsh2 hok hcp hoi hof hmt hk hkn
   obtain ⟨ml,hml⟩:∃ q,(moE M).length=q:=⟨_,rfl⟩
   have HML:=hid hml
   have hlm:ml <= 9223372036854775807:=by rw [<- hml];exact lo_len HCP.out
   clear hml
   have hby:=refbytes_to V M wr HRX.out (mayCn_of HCP.out.1) HCP.out.2
   rw [HCS.out] at hby;have HBY:=hid hby;clear hby
   have a0:=HC.out.cell 0 _ rfl
   have a1:=HC.out.cell 1 _ rfl
   have a2:=HC.out.cell 2 _ rfl
   have a3:=HC.out.cell 3 _ rfl
   have a4:=HC.out.cell 4 _ rfl
   have a5:=HC.out.cell 5 _ rfl
   have a6:=HC.out.cell 6 _ rfl
   have a7:=HC.out.cell 7 _ rfl
   have a8:=HC.out.cell 8 _ rfl
   have a9:=HC.out.cell 9 _ rfl
   have a10:=HC.out.cell 10 _ rfl
   have a11:=HC.out.cell 11 _ rfl
   have a12:=HC.out.cell 12 _ rfl
   have a13:=HC.out.cell 13 _ rfl
   go_wp2_with fail
   clear a0 a1 a2 a3 a4 a5 a6 a7 a8 a9 a10 a11 a12 a13
   refine HBY.out.mono ?_
   rintro e w4 ⟨v4,rfl,hv,hb⟩
   obtain ⟨so,sc,rfl,_⟩:=hv.rd
   rw [HML.out]
   have hs4:=hb.size
   replace HC:=hid (HC.out.below (Nat.succ_pos _) hb)
   replace HRX:=hid (HRX.out.below hb)
   replace HB:=hid (HB.out.trans (hb.mono HB.out.size))
   clear HBY hv hb
   have hp4:p < w4.heap.size:=by omega
   have he:=encode_to V M w4 HRX.out HOI.out HOF.out
   rw [HCS.out] at he;have HE:=hid he;clear he
   have a0:=HC.out.cell 0 _ rfl
   have a1:=HC.out.cell 1 _ rfl
   have a2:=HC.out.cell 2 _ rfl
   have a3:=HC.out.cell 3 _ rfl
   have a4:=HC.out.cell 4 _ rfl
   have a5:=HC.out.cell 5 _ rfl
   have a6:=HC.out.cell 6 _ rfl
   have a7:=HC.out.cell 7 _ rfl
   have a8:=HC.out.cell 8 _ rfl
   have a9:=HC.out.cell 9 _ rfl
   have a10:=HC.out.cell 10 _ rfl
   have a11:=HC.out.cell 11 _ rfl
   have a12:=HC.out.cell 12 _ rfl
   have a13:=HC.out.cell 13 _ rfl
   go_wp2_with fail
   clear a0 a1 a2 a3 a4 a5 a6 a7 a8 a9 a10 a11 a12 a13
   refine HE.out.mono ?_
   rintro e w5 ⟨v5,rfl,hv,hb⟩
   have hs5:=hb.size
   replace HC:=hid (HC.out.below (Nat.succ_pos _) hb)
   replace HRX:=hid (HRX.out.below hb)
   replace HB:=hid (HB.out.trans (hb.mono HB.out.size))
   clear HE hb
   have hp5:p < w5.heap.size:=by omega
   by_cases hbig:(ml:Int) > 8000
   ·
    have hmx:mayMo M=false:=by unfold mayMo;rw [HML.out,decide_eq_false (by omega)];simp
    have HMX:=hid hmx
    have hen:enc? M=[]:=by unfold enc?;rw [hmx];rfl
    rw [hen] at hv
    obtain ⟨bo,bc,rfl,hr⟩:=hv.rd
    simp only [List.length_nil]
    clear hmx hen hv hr
    have hby:=refbytes_to V M w5 HRX.out (mayCn_of HCP.out.1) HCP.out.2
    rw [HCS.out] at hby;have HBY:=hid hby;clear hby
    have a0:=HC.out.cell 0 _ rfl
    have a1:=HC.out.cell 1 _ rfl
    have a2:=HC.out.cell 2 _ rfl
    have a3:=HC.out.cell 3 _ rfl
    have a4:=HC.out.cell 4 _ rfl
    have a5:=HC.out.cell 5 _ rfl
    have a6:=HC.out.cell 6 _ rfl
    have a7:=HC.out.cell 7 _ rfl
    have a8:=HC.out.cell 8 _ rfl
    have a9:=HC.out.cell 9 _ rfl
    have a10:=HC.out.cell 10 _ rfl
    have a11:=HC.out.cell 11 _ rfl
    have a12:=HC.out.cell 12 _ rfl
    have a13:=HC.out.cell 13 _ rfl
    go_wp2_with fail
    clear a0 a1 a2 a3 a4 a5 a6 a7 a8 a9 a10 a11 a12 a13
    refine HBY.out.mono ?_
    rintro e w6 ⟨v6,rfl,hv,hb⟩
    obtain ⟨so6,sc6,rfl,hr6⟩:=hv.rd
    have hs6:=hb.size
    replace HC:=hid (HC.out.below (Nat.succ_pos _) hb)
    replace HRX:=hid (HRX.out.below hb)
    replace HB:=hid (HB.out.trans (hb.mono HB.out.size))
    clear HBY hv hb
    have hdec:=decodeL_to so6 _ sc6 (moE M) w6 hr6 (by rw [HML.out];omega)
    rw [HML.out] at hdec ⊢;have HDEC:=hid hdec;clear hdec hr6
    go_wp2_with fail
    refine HDEC.out.mono ?_
    rintro e w7 ⟨rfl,hb⟩
    have hs7:=hb.size
    replace HC:=hid (HC.out.below (Nat.succ_pos _) hb)
    replace HRX:=hid (HRX.out.below hb)
    replace HB:=hid (HB.out.trans (hb.mono HB.out.size))
    clear HDEC hb
    have hp7:p < w7.heap.size:=by omega
    have hb:Below w7.heap.size w7 (w7.alloc (.cells #[.slice none 0 0,.slice none 0 0,.slice none 0 0,.bool false,.int .i64 0,.int .i64 0,.bool false,.int .i64 0,.int .i64 0,.slice none 0 0,.slice none 0 0,.slice none 0 0,.slice none 0 0,.slice none 0 0] 33)):=Bl.alloc (Bl.refl _) _
    have hp8:p < (w7.alloc (.cells #[.slice none 0 0,.slice none 0 0,.slice none 0 0,.bool false,.int .i64 0,.int .i64 0,.bool false,.int .i64 0,.int .i64 0,.slice none 0 0,.slice none 0 0,.slice none 0 0,.slice none 0 0,.slice none 0 0] 33)).heap.size:=by simp;omega
    replace HC:=hid (HC.out.below (Nat.succ_pos _) hb)
    replace HRX:=hid (HRX.out.below hb)
    replace HB:=hid (HB.out.trans (hb.mono HB.out.size))
    clear hb
    have a0:=HC.out.cell 0 _ rfl
    have a1:=HC.out.cell 1 _ rfl
    have a2:=HC.out.cell 2 _ rfl
    have a3:=HC.out.cell 3 _ rfl
    have a4:=HC.out.cell 4 _ rfl
    have a5:=HC.out.cell 5 _ rfl
    have a6:=HC.out.cell 6 _ rfl
    have a7:=HC.out.cell 7 _ rfl
    have a8:=HC.out.cell 8 _ rfl
    have a9:=HC.out.cell 9 _ rfl
    have a10:=HC.out.cell 10 _ rfl
    have a11:=HC.out.cell 11 _ rfl
    have a12:=HC.out.cell 12 _ rfl
    have a13:=HC.out.cell 13 _ rfl
    have hmy:=mayMod_to V M (w7.alloc (.cells #[.slice none 0 0,.slice none 0 0,.slice none 0 0,.bool false,.int .i64 0,.int .i64 0,.bool false,.int .i64 0,.int .i64 0,.slice none 0 0,.slice none 0 0,.slice none 0 0,.slice none 0 0,.slice none 0 0] 33)) HRX.out HOI.out HOF.out
    rw [HCS.out,HMX.out] at hmy;have HMY:=hid hmy;clear hmy
    go_wp2_with fail
    clear a0 a1 a2 a3 a4 a5 a6 a7 a8 a9 a10 a11 a12 a13
    refine HMY.out.mono ?_
    rintro e w8 ⟨rfl,hb⟩
    have HB8:=hid (HB.out.trans (hb.mono HB.out.size));clear hb HMY
    go_wp2_with fail
    go_ret
    exact ⟨rfl,HB8.out⟩
   ·
    have hmay:mayMo M=true:=by unfold mayMo;rw [HML.out,HCP.out.1,HCP.out.2,decide_eq_true (by omega)];rfl
    have HMAY:=hid hmay
    have hen:enc? M=moE M:=by unfold enc?;rw [if_pos hmay]
    rw [hen] at hv
    obtain ⟨bo,bc,rfl,hr⟩:=hv.rd
    rw [HML.out] at hr ⊢
    have HR:=hid hr;clear hmay hen hv hr
    go_wp2_with fail
    refine (decodeM_to bo ml bc M w5 HR.out HMAY.out HOK.out).mono ?_
    rintro e w6 ⟨X,rfl,hx5,hb⟩
    have HRY:Hid (Rx w6 (MoR X M)):=hid (hx5.more fun b hb=>hb.2)
    replace HC:=hid (HC.out.below (Nat.succ_pos _) hb)
    replace HRX:=hid (HRX.out.below hb)
    replace HB:=hid (HB.out.trans (hb.mono HB.out.size))
    have hs6:=hb.size
    clear hb hx5 HR
    obtain ⟨⟨otx,ntx,ctx⟩,⟨oix,nix,cix⟩,⟨ofx,nfx,cfx⟩,⟨ogx,ngx,cgx⟩,⟨oex,nex,cex⟩,⟨olx,nlx,clx⟩,⟨ocx,ncx,ccx⟩,⟨odx,ndx,cdx⟩⟩:=X
    have hyc:(MoV.cells ⟨⟨otx,ntx,ctx⟩,⟨oix,nix,cix⟩,⟨ofx,nfx,cfx⟩,⟨ogx,ngx,cgx⟩,⟨oex,nex,cex⟩,⟨olx,nlx,clx⟩,⟨ocx,ncx,ccx⟩,⟨odx,ndx,cdx⟩⟩ M)=[.slice otx ntx ctx,.slice oix nix cix,.slice ofx nfx cfx,.bool false,.int .i64 0,.int .i64 0,.bool true,.int .i64 16,.int .i64 (-1),.slice ogx ngx cgx,.slice oex nex cex,.slice olx nlx clx,.slice ocx ncx ccx,.slice odx ndx cdx]:=by unfold MoV.cells;rw [HMT.out.1,HMT.out.2.1,HMT.out.2.2.1,HMT.out.2.2.2.1,HMT.out.2.2.2.2.1,HMT.out.2.2.2.2.2]
    rw [hyc]
    have HYC:=hid hyc;clear hyc
    have hp6:p < w6.heap.size:=by omega
    have hb:Below w6.heap.size w6 (w6.alloc (.cells #[.slice otx ntx ctx,.slice oix nix cix,.slice ofx nfx cfx,.bool false,.int .i64 0,.int .i64 0,.bool true,.int .i64 16,.int .i64 (-1),.slice ogx ngx cgx,.slice oex nex cex,.slice olx nlx clx,.slice ocx ncx ccx,.slice odx ndx cdx] 33)):=Bl.alloc (Bl.refl _) _
    have hcy:=Cel.new w6 [.slice otx ntx ctx,.slice oix nix cix,.slice ofx nfx cfx,.bool false,.int .i64 0,.int .i64 0,.bool true,.int .i64 16,.int .i64 (-1),.slice ogx ngx cgx,.slice oex nex cex,.slice olx nlx clx,.slice ocx ncx ccx,.slice odx ndx cdx] 33
    replace HC:=hid (HC.out.below (Nat.succ_pos _) hb)
    replace HRX:=hid (HRX.out.below hb)
    replace HB:=hid (HB.out.trans (hb.mono HB.out.size))
    replace HRY:=hid (HRY.out.below hb)
    have hp7:p < (w6.alloc (.cells #[.slice otx ntx ctx,.slice oix nix cix,.slice ofx nfx cfx,.bool false,.int .i64 0,.int .i64 0,.bool true,.int .i64 16,.int .i64 (-1),.slice ogx ngx cgx,.slice oex nex cex,.slice olx nlx clx,.slice ocx ncx ccx,.slice odx ndx cdx] 33)).heap.size:=by simp;omega
    obtain ⟨r,hr⟩:∃ r,w6.heap.size=r:=⟨_,rfl⟩
    have hr7:(w6.alloc (.cells #[.slice otx ntx ctx,.slice oix nix cix,.slice ofx nfx cfx,.bool false,.int .i64 0,.int .i64 0,.bool true,.int .i64 16,.int .i64 (-1),.slice ogx ngx cgx,.slice oex nex cex,.slice olx nlx clx,.slice ocx ncx ccx,.slice odx ndx cdx] 33)).heap.size=r + 1:=by simp [hr]
    rw [hr] at hcy
    have HCY:=hid hcy;have HRR:=hid hr;clear hb hcy
    have a0:=HC.out.cell 0 _ rfl
    have a1:=HC.out.cell 1 _ rfl
    have a2:=HC.out.cell 2 _ rfl
    have a3:=HC.out.cell 3 _ rfl
    have a4:=HC.out.cell 4 _ rfl
    have a5:=HC.out.cell 5 _ rfl
    have a6:=HC.out.cell 6 _ rfl
    have a7:=HC.out.cell 7 _ rfl
    have a8:=HC.out.cell 8 _ rfl
    have a9:=HC.out.cell 9 _ rfl
    have a10:=HC.out.cell 10 _ rfl
    have a11:=HC.out.cell 11 _ rfl
    have a12:=HC.out.cell 12 _ rfl
    have a13:=HC.out.cell 13 _ rfl
    have hmy:=mayMod_to V M (w6.alloc (.cells #[.slice otx ntx ctx,.slice oix nix cix,.slice ofx nfx cfx,.bool false,.int .i64 0,.int .i64 0,.bool true,.int .i64 16,.int .i64 (-1),.slice ogx ngx cgx,.slice oex nex cex,.slice olx nlx clx,.slice ocx ncx ccx,.slice odx ndx cdx] 33)) HRX.out HOI.out HOF.out
    rw [HCS.out,HMAY.out] at hmy;have HMY:=hid hmy;clear hmy
    go_wp2_with fail
    clear a0 a1 a2 a3 a4 a5 a6 a7 a8 a9 a10 a11 a12 a13
    refine HMY.out.mono ?_
    rintro e w8 ⟨rfl,hb⟩
    have hs8:=hb.size
    rw [hr7] at hs8
    replace HC:=hid (HC.out.below (Nat.succ_pos _) hb)
    replace HRX:=hid (HRX.out.below hb)
    replace HB:=hid (HB.out.trans (hb.mono HB.out.size))
    replace HRY:=hid (HRY.out.below hb);replace HCY:=hid (HCY.out.below (Nat.succ_pos _) hb)
    clear hb HMY hr7 hp7 hr
    have a0:=HC.out.cell 0 _ rfl
    have a1:=HC.out.cell 1 _ rfl
    have a2:=HC.out.cell 2 _ rfl
    have a3:=HC.out.cell 3 _ rfl
    have a4:=HC.out.cell 4 _ rfl
    have a5:=HC.out.cell 5 _ rfl
    have a6:=HC.out.cell 6 _ rfl
    have a7:=HC.out.cell 7 _ rfl
    have a8:=HC.out.cell 8 _ rfl
    have a9:=HC.out.cell 9 _ rfl
    have a10:=HC.out.cell 10 _ rfl
    have a11:=HC.out.cell 11 _ rfl
    have a12:=HC.out.cell 12 _ rfl
    have a13:=HC.out.cell 13 _ rfl
    have y0:=HCY.out.cell 0 _ rfl
    have y1:=HCY.out.cell 1 _ rfl
    have y2:=HCY.out.cell 2 _ rfl
    have y3:=HCY.out.cell 3 _ rfl
    have y4:=HCY.out.cell 4 _ rfl
    have y5:=HCY.out.cell 5 _ rfl
    have y6:=HCY.out.cell 6 _ rfl
    have y7:=HCY.out.cell 7 _ rfl
    have y8:=HCY.out.cell 8 _ rfl
    have y9:=HCY.out.cell 9 _ rfl
    have y10:=HCY.out.cell 10 _ rfl
    have y11:=HCY.out.cell 11 _ rfl
    have y12:=HCY.out.cell 12 _ rfl
    have y13:=HCY.out.cell 13 _ rfl
    have hp8:p < w8.heap.size:=by have:=HRR.out;omega
    have hr8:r < w8.heap.size:=by omega
    have heq:=refEq_to V _ M M w8 HRX.out HRY.out
    rw [HCS.out,HYC.out,eqMo_refl] at heq
    have HEQ:=hid heq;clear heq
    go_wp2_with fail
    clear a0 a1 a2 a3 a4 a5 a6 a7 a8 a9 a10 a11 a12 a13
    clear y0 y1 y2 y3 y4 y5 y6 y7 y8 y9 y10 y11 y12 y13
    refine HEQ.out.mono ?_
    rintro e w9 ⟨rfl,hb⟩
    have HB9:=hid (HB.out.trans (hb.mono HB.out.size));clear hb HEQ
    go_wp2_with fail
    go_ret
    exact ⟨rfl,HB9.out⟩
set_option maxRecDepth 100000 in
theorem wasmLong_walk (n m:Int) (w:World) (hn:-9223372036854775808 <= n /\ n <= 9223372036854775807) (hm:-9223372036854775808 <= m /\ m <= 9223372036854775807) :
    Calls Tryz.prog 4 #[.int .i64 n,.int .i64 m] w fun e w'=>e=.returned (.bool true) /\ Below w.heap.size w w':=by
 by_cases h:(0 <= n /\ n <= 1000) /\ 0 <= m /\ m <= 9
 ·obtain ⟨k,rfl⟩:=Int.eq_ofNat_of_zero_le h.1.1
  obtain ⟨l,rfl⟩:=Int.eq_ofNat_of_zero_le h.2.1
  exact wasmLong_in k l w (by omega) (by omega)
 ·have hb:=begun_to w
  have HBG:=hid hb
  clear hb hn hm
  rcases (by omega:n < 0 ∨ (0 <= n /\ 1000 < n) ∨ (0 <= n /\ n <= 1000) /\ m < 0 ∨ (0 <= n /\ n <= 1000) /\ 0 <= m /\ 9 < m) with g | ⟨g,g2⟩ | ⟨⟨g,g2⟩,g3⟩ | ⟨⟨g,g2⟩,g3,g4⟩
  all_goals
   clear h
   go_enter Tryz.func4,Tryz.ntmps4
   go_wp2_with fail
   refine HBG.out.mono ?_
   rintro e w1 ⟨rfl,hb⟩
   go_wp2_with fail
   go_ret
   exact ⟨rfl,hb⟩
end Go.Proofs.YtbkofpljchkkaaaGreat
