/- Words: WaMany1. -/
import Derived.Test.YtbkofpljchkkaaaGreatWaManyM
namespace Go.Proofs.YtbkofpljchkkaaaGreat
open Go.RowKit
set_option maxRecDepth 100000 in
set_option maxHeartbeats 4000000 in
theorem wasmMany_1 (n:Nat) (wh:Int) (w:World) (hn:n <= 20) (hj:bits .and .i64 wh 3=1) :
    Calls Tryz.prog 7 #[.int .i64 n,.int .i64 wh] w fun e w'=>e=.returned (.bool true) /\ Below w.heap.size w w':=by
 have hb:=begun_to w
 have HBG:=hid hb
 clear hb
 have hd1:decide ((n:Int) < 0)=false:=by simp
 have hd2:decide ((20:Int) < n)=false:=by simp;omega
 go_enter Tryz.func7,Tryz.ntmps7
 go_wp2_with fail
 refine HBG.out.mono ?_
 rintro e w1 ⟨rfl,hb⟩
 have HB1:=hid hb;have hsz1:=hb.size;clear hb HBG
 obtain ⟨p,hp⟩:∃ p,w1.heap.size=p:=⟨_,rfl⟩
 have hc0:=Cel.new w1 [.slice none 0 0,.slice none 0 0,.slice none 0 0,.bool false,.int .i64 0,.int .i64 0,.bool false,.int .i64 0,.int .i64 0,.slice none 0 0,.slice none 0 0,.slice none 0 0,.slice none 0 0,.slice none 0 0] 33
 have hb0:Below w1.heap.size w1 (w1.alloc (.cells #[.slice none 0 0,.slice none 0 0,.slice none 0 0,.bool false,.int .i64 0,.int .i64 0,.bool false,.int .i64 0,.int .i64 0,.slice none 0 0,.slice none 0 0,.slice none 0 0,.slice none 0 0,.slice none 0 0] 33)):=Bl.alloc (Bl.refl w1) _
 have hz0:(w1.alloc (.cells #[.slice none 0 0,.slice none 0 0,.slice none 0 0,.bool false,.int .i64 0,.int .i64 0,.bool false,.int .i64 0,.int .i64 0,.slice none 0 0,.slice none 0 0,.slice none 0 0,.slice none 0 0,.slice none 0 0] 33)).heap.size=p + 1:=by simp [hp]
 have HC0:=hid hc0;have HB0:=hid (HB1.out.trans (hb0.mono hsz1));have HZ0:=hid hz0;have HP:=hid hp
 clear hc0 hb0 hz0
 go_wp2_with fail
 rw [HP.out] at HC0
 rw [HP.out] at hsz1
 clear hp hd1 hd2
 obtain ⟨w0,hw0⟩:∃ w0,w1.alloc (.cells #[.slice none 0 0,.slice none 0 0,.slice none 0 0,.bool false,.int .i64 0,.int .i64 0,.bool false,.int .i64 0,.int .i64 0,.slice none 0 0,.slice none 0 0,.slice none 0 0,.slice none 0 0,.slice none 0 0] 33)=w0:=⟨_,rfl⟩
 rw [hw0] at HC0 HB0 HZ0 ⊢
 clear hw0
 have hz0:=HZ0.out
 go_loopw [7] (fun i wr=>∃ (k:Nat) (v:Value),k <= n /\ i=.int .i64 k /\ Hid (Cel wr p [.slice none 0 0,.slice none 0 0,.slice none 0 0,.bool false,.int .i64 0,.int .i64 0,.bool false,.int .i64 0,.int .i64 0,v,.slice none 0 0,.slice none 0 0,.slice none 0 0,.slice none 0 0]) /\ Hid (OwnG 58 3 GlR (p + 1) wr v ((List.range k).map (fun i:Nat=>(⟨false,1,i⟩:MGl)))) /\ Hid (Below w.heap.size w wr) /\ Hid (p < wr.heap.size)) (fun i _=>n - (intOf i).toNat)
 case atStart=>exact ⟨0,_,Nat.zero_le _,rfl,HC0,hid (OwnG.nil _ _ _ _ _),HB0,hid (by omega)⟩
 case round =>
  obtain ⟨k,v,hkn,rfl,HC,HO,HB,HPL⟩:=hrel
  have hpl:=HPL.out
  obtain ⟨vo,vc,rfl,hsh1,hsh2,hsh3⟩:=HO.out.shape
  have hll:((List.range k).map (fun i:Nat=>(⟨false,1,i⟩:MGl))).length=k:=by simp
  rw [hll] at HO HC hsh1
  clear hsh3
  have hck:=HC.out.cell 9 _ rfl
  by_cases hk:k < n
  ·
   go_wp2_with (at_builtin;apply stopHere)
   clear hck
   obtain ⟨wx,hwx⟩:∃ q,wr=q:=⟨_,rfl⟩
   have HBX:Hid (Below wr.heap.size wr wx):=hid (by rw [<- hwx];exact Below.refl _ _)
   rw [hwx];clear hwx
   have hsx:=HBX.out.size
   have HOX:=hid (HO.out.below HBX.out (Nat.le_refl _))
   have HCX:=hid (HC.out.below (Nat.succ_pos _) HBX.out)
   have HBW:=hid (HB.out.trans (HBX.out.mono HB.out.size))
   refine hid ?_
   refine wpList_append_g rfl (.tmp 48) (.tmp 52) 27 rfl _ _ Tryz.underlying27 infoGl rfl (by decide) rfl (HOX.out.alloc (.cells #[.bool false,.int .i64 1,.int .i64 k] 58)) (by simp;omega) wx.heap.size [.bool false,.int .i64 1,.int .i64 k] rfl rfl (fun j u hu=>(Cel.new wx [.bool false,.int .i64 1,.int .i64 k] 58).cell j u hu) (by simp [Value.oneCell']) (⟨false,1,(k:Int)⟩) (fun w1 _=>⟨rfl,by show -9223372036854775808 <= (k:Int) /\ (k:Int) <= 9223372036854775807;omega⟩) (by rw [hll];omega) (by rw [hll];omega) ?_
   intro v2 w2 o1 o2
   obtain ⟨vo2,vc2,hve2,_,_,_⟩:=o1.shape
   rw [List.length_append,hll] at hve2
   obtain rfl:v2=.slice vo2 (k + 1) vc2:=hve2
   have hg2:wx.grownBy w2 (Value.slice vo k vc).ownBlock:=gr_trans (gr_below (Bl.alloc (Bl.refl wx) (.cells #[.bool false,.int .i64 1,.int .i64 k] 58)) (Nat.le_refl _) _) o2
   have hcx2:=HCX.out.grown (Nat.succ_pos _) hg2 (fun e=>by have:=(HOX.out.lt p e).1;omega)
   have hsz2:=hg2.size
   have hp2:p < w2.heap.size:=by omega
   have HB2:Hid (Below w.heap.size w w2):=hid ⟨hg2.os.trans HBW.out.os,hg2.tape.trans HBW.out.tape,hg2.output.trans HBW.out.output,Nat.le_trans HBW.out.size hg2.size,fun b hb=>(hg2.block b (Nat.lt_of_lt_of_le hb HBW.out.size) (fun e=>by have:=(HOX.out.lt b e.symm).1;omega)).trans (HBW.out.block b hb)⟩
   have HC2:=hid hcx2;have HO2:=hid o1
   have hck2:=hcx2.cell 9 _ rfl
   have hfk2:=hcx2.fro 9 _ rfl
   clear o1 o2 hg2 hcx2 HOX HCX HBX HBW
   go_wp2_with fail
   clear hck2 hfk2
   go_roundw
   case rel =>
    refine ⟨k + 1,.slice vo2 (k + 1) vc2,by omega,by go_num,hid ?_,hid ?_,hid ?_,hid ?_⟩
    ·exact HC2.out.set 9 _ (by simp)
    ·have e1:(List.range (k + 1)).map (fun i:Nat=>(⟨false,1,i⟩:MGl))=(List.range k).map (fun i:Nat=>(⟨false,1,i⟩:MGl)) ++ [⟨false,1,(k:Int)⟩]:=by simp only [List.range_succ,List.map_append,List.map_cons,List.map_nil]
     rw [e1];exact HO2.out.kept (grown_set w2 ⟨p,9,none⟩ _) (fun q e=>by have h:p=q:=(by simpa using e);omega)
    ·exact HB2.out.setCell (p:=⟨p,9,none⟩) hsz1 _
    ·simpa using hp2
   case measure=>simp [intOf];omega
  ·
   have e0:k=n:=by omega
   subst e0
   obtain ⟨ao,cap,hsl,hrx⟩:=HO.out.rx
   rw [hll] at hsl hrx
   obtain ⟨rfl,rfl⟩:vo=ao /\ vc=cap:=by simpa using hsl
   obtain ⟨V,hV⟩:∃ V:MoV,V=⟨⟨none,0,0⟩,⟨none,0,0⟩,⟨none,0,0⟩,⟨vo,k,vc⟩,⟨none,0,0⟩,⟨none,0,0⟩,⟨none,0,0⟩,⟨none,0,0⟩⟩:=⟨_,rfl⟩
   have hm:mnM 1 k={ globals:=(List.range k).map (fun i:Nat=>(⟨false,1,i⟩:MGl)) }:=rfl
   have HRX:Hid (Rx wr (MoR V (mnM 1 k))):=hid (by rw [hV,hm];exact hrx.imp fun w h=>⟨RdG.empty w,RdG.empty w,Rd.empty w .i64,h,RdG.empty w,RdG.empty w,RdG.empty w,RdG.empty w⟩)
   have hcs:V.cells (mnM 1 k)=[.slice none 0 0,.slice none 0 0,.slice none 0 0,.bool false,.int .i64 0,.int .i64 0,.bool false,.int .i64 0,.int .i64 0,.slice vo k vc,.slice none 0 0,.slice none 0 0,.slice none 0 0,.slice none 0 0]:=by rw [hV,hm];rfl
   have HCS:=hid hcs;clear hsl hrx hV hm hcs hll HO HP HZ0 HC0 HB0 hsh1 hsh2
   have hok:=mn_ok 1 k hn
   have hoi:=mn_im 1 k hn
   have hof:=mn_fu 1 k
   have he:=encode_to V (mnM 1 k) wr HRX.out hoi hof
   rw [HCS.out] at he
   have HE:=hid he;have HOK:=hid hok;have HOI:=hid hoi;have HOF:=hid hof;clear he hok hoi hof hk hkn
   have a0:=HC.out.cell 0 _ rfl
   have a1:=HC.out.cell 1 _ rfl
   have a2:=HC.out.cell 2 _ rfl
   have a3:=HC.out.cell 3 _ rfl
   have a4:=HC.out.cell 4 _ rfl
   have a5:=HC.out.cell 5 _ rfl
   have a6:=HC.out.cell 6 _ rfl
   have a7:=HC.out.cell 7 _ rfl
   have a8:=HC.out.cell 8 _ rfl
   have a9:=HC.out.cell 9 _ rfl
   have a10:=HC.out.cell 10 _ rfl
   have a11:=HC.out.cell 11 _ rfl
   have a12:=HC.out.cell 12 _ rfl
   have a13:=HC.out.cell 13 _ rfl
   have g16:(k:Int) > 16 ∨ ¬ (k:Int) > 16:=by omega
   go_wp2_with fail
   clear a0 a1 a2 a3 a4 a5 a6 a7 a8 a9 a10 a11 a12 a13
   refine HE.out.mono ?_
   rintro e w4 ⟨v,rfl,hv,hb⟩
   have hs4:=hb.size
   replace HC:=hid (HC.out.below (Nat.succ_pos _) hb)
   replace HRX:=hid (HRX.out.below hb)
   replace HB:=hid (HB.out.trans (hb.mono HB.out.size))
   clear HE
   rcases g16 with g16 | g16
   ·
    have hbad:=mn_bad 1 k (by decide) (by omega) hn
    have hmx:mayMo (mnM 1 k)=false:=hbad.1
    have hen:enc? (mnM 1 k)=[]:=by unfold enc?;rw [hmx];rfl
    rw [hen] at hv
    obtain ⟨bo,bc,rfl,hr⟩:=hv.rd
    simp only [List.length_nil]
    have HBD:=hid hbad;clear hbad hmx hen hv hr hb
    have hp4:p < w4.heap.size:=by omega
    have a0:=HC.out.cell 0 _ rfl
    have a1:=HC.out.cell 1 _ rfl
    have a2:=HC.out.cell 2 _ rfl
    have a3:=HC.out.cell 3 _ rfl
    have a4:=HC.out.cell 4 _ rfl
    have a5:=HC.out.cell 5 _ rfl
    have a6:=HC.out.cell 6 _ rfl
    have a7:=HC.out.cell 7 _ rfl
    have a8:=HC.out.cell 8 _ rfl
    have a9:=HC.out.cell 9 _ rfl
    have a10:=HC.out.cell 10 _ rfl
    have a11:=HC.out.cell 11 _ rfl
    have a12:=HC.out.cell 12 _ rfl
    have a13:=HC.out.cell 13 _ rfl
    go_wp2_with fail
    clear a0 a1 a2 a3 a4 a5 a6 a7 a8 a9 a10 a11 a12 a13
    have hby:=refbytes_to V (mnM 1 k) w4 HRX.out HBD.out.2.1 HBD.out.2.2.1
    rw [HCS.out] at hby
    refine hby.mono ?_
    rintro e w5 ⟨v5,rfl,h5,b5⟩
    obtain ⟨so,sc,rfl,hr5⟩:=h5.rd
    have HR5:=hid hr5;have HB5:=hid (HB.out.trans (b5.mono HB.out.size));clear hby h5 b5 hr5
    have hdec:=decodeB_to so _ sc (mnM 1 k) w5 HR5.out HBD.out.2.2.2 (by rw [HBD.out.1];decide) (MoP.ofP HBD.out.2.2.1 HOK.out) HOI.out HOF.out
    have HDEC:=hid hdec;clear hdec
    obtain ⟨sl,hsl⟩:∃ q,(moE (mnM 1 k)).length=q:=⟨_,rfl⟩
    rw [hsl] at HDEC ⊢;clear hsl HR5
    go_wp2_with fail
    refine HDEC.out.mono ?_
    rintro e w6 ⟨rfl,b6⟩
    have HB6:=hid (HB5.out.trans (b6.mono HB5.out.size));clear b6 HDEC
    go_wp2_with fail
    go_ret
    exact ⟨by first | rfl | (simp;done),HB6.out.trans ((Bl.alloc (Bl.refl _) _).mono HB6.out.size)⟩
   ·
    have hmay:=mn_may 1 k (by decide) (by omega)
    have hen:enc? (mnM 1 k)=moE (mnM 1 k):=by unfold enc?;rw [if_pos hmay]
    rw [hen] at hv
    obtain ⟨bo,bc,rfl,hr⟩:=hv.rd
    obtain ⟨bn,hbn⟩:∃ bn,(moE (mnM 1 k)).length=bn:=⟨_,rfl⟩
    rw [hbn] at hr ⊢
    have HR:=hid hr;have HMAY:=hid hmay;clear hen hv hr hb hbn hmay
    go_wp2_with fail
    refine (decodeM_to bo bn bc (mnM 1 k) w4 HR.out HMAY.out HOK.out).mono ?_
    rintro e w5 ⟨X,rfl,hx5,hb⟩
    have HRY:Hid (Rx w5 (MoR X (mnM 1 k))):=hid (hx5.more fun b hb=>hb.2)
    replace HC:=hid (HC.out.below (Nat.succ_pos _) hb)
    replace HRX:=hid (HRX.out.below hb)
    replace HB:=hid (HB.out.trans (hb.mono HB.out.size))
    have hs5:=hb.size
    clear hb hx5 HR
    obtain ⟨⟨otx,ntx,ctx⟩,⟨oix,nix,cix⟩,⟨ofx,nfx,cfx⟩,⟨ogx,ngx,cgx⟩,⟨oex,nex,cex⟩,⟨olx,nlx,clx⟩,⟨ocx,ncx,ccx⟩,⟨odx,ndx,cdx⟩⟩:=X
    have hyc:(MoV.cells ⟨⟨otx,ntx,ctx⟩,⟨oix,nix,cix⟩,⟨ofx,nfx,cfx⟩,⟨ogx,ngx,cgx⟩,⟨oex,nex,cex⟩,⟨olx,nlx,clx⟩,⟨ocx,ncx,ccx⟩,⟨odx,ndx,cdx⟩⟩ (mnM 1 k))=[.slice otx ntx ctx,.slice oix nix cix,.slice ofx nfx cfx,.bool false,.int .i64 0,.int .i64 0,.bool false,.int .i64 0,.int .i64 0,.slice ogx ngx cgx,.slice oex nex cex,.slice olx nlx clx,.slice ocx ncx ccx,.slice odx ndx cdx]:=rfl
    rw [hyc]
    have HYC:=hid hyc;clear hyc
    have hp5:p < w5.heap.size:=by omega
    have hb:Below w5.heap.size w5 (w5.alloc (.cells #[.slice otx ntx ctx,.slice oix nix cix,.slice ofx nfx cfx,.bool false,.int .i64 0,.int .i64 0,.bool false,.int .i64 0,.int .i64 0,.slice ogx ngx cgx,.slice oex nex cex,.slice olx nlx clx,.slice ocx ncx ccx,.slice odx ndx cdx] 33)):=Bl.alloc (Bl.refl _) _
    have hcy:=Cel.new w5 [.slice otx ntx ctx,.slice oix nix cix,.slice ofx nfx cfx,.bool false,.int .i64 0,.int .i64 0,.bool false,.int .i64 0,.int .i64 0,.slice ogx ngx cgx,.slice oex nex cex,.slice olx nlx clx,.slice ocx ncx ccx,.slice odx ndx cdx] 33
    have HA:=hid (HC.out.below (Nat.succ_pos _) hb)
    have y0:=hcy.cell 0 _ rfl
    have y1:=hcy.cell 1 _ rfl
    have y2:=hcy.cell 2 _ rfl
    have y3:=hcy.cell 3 _ rfl
    have y4:=hcy.cell 4 _ rfl
    have y5:=hcy.cell 5 _ rfl
    have y6:=hcy.cell 6 _ rfl
    have y7:=hcy.cell 7 _ rfl
    have y8:=hcy.cell 8 _ rfl
    have y9:=hcy.cell 9 _ rfl
    have y10:=hcy.cell 10 _ rfl
    have y11:=hcy.cell 11 _ rfl
    have y12:=hcy.cell 12 _ rfl
    have y13:=hcy.cell 13 _ rfl
    have a0:=HA.out.cell 0 _ rfl
    have a1:=HA.out.cell 1 _ rfl
    have a2:=HA.out.cell 2 _ rfl
    have a3:=HA.out.cell 3 _ rfl
    have a4:=HA.out.cell 4 _ rfl
    have a5:=HA.out.cell 5 _ rfl
    have a6:=HA.out.cell 6 _ rfl
    have a7:=HA.out.cell 7 _ rfl
    have a8:=HA.out.cell 8 _ rfl
    have a9:=HA.out.cell 9 _ rfl
    have a10:=HA.out.cell 10 _ rfl
    have a11:=HA.out.cell 11 _ rfl
    have a12:=HA.out.cell 12 _ rfl
    have a13:=HA.out.cell 13 _ rfl
    have hp6:p < (w5.alloc (.cells #[.slice otx ntx ctx,.slice oix nix cix,.slice ofx nfx cfx,.bool false,.int .i64 0,.int .i64 0,.bool false,.int .i64 0,.int .i64 0,.slice ogx ngx cgx,.slice oex nex cex,.slice olx nlx clx,.slice ocx ncx ccx,.slice odx ndx cdx] 33)).heap.size:=by simp;omega
    have hp7:w5.heap.size < (w5.alloc (.cells #[.slice otx ntx ctx,.slice oix nix cix,.slice ofx nfx cfx,.bool false,.int .i64 0,.int .i64 0,.bool false,.int .i64 0,.int .i64 0,.slice ogx ngx cgx,.slice oex nex cex,.slice olx nlx clx,.slice ocx ncx ccx,.slice odx ndx cdx] 33)).heap.size:=by simp
    replace HC:=hid (HC.out.below (Nat.succ_pos _) hb)
    replace HRX:=hid (HRX.out.below hb)
    replace HB:=hid (HB.out.trans (hb.mono HB.out.size))
    replace HRY:=hid (HRY.out.below hb)
    clear hb hcy HA HC
    go_wp2_with fail
    clear y0 a0 y1 a1 y2 a2 y3 a3 y4 a4 y5 a5 y6 a6 y7 a7 y8 a8 y9 a9 y10 a10 y11 a11 y12 a12 y13 a13
    have heq:=refEq_to _ V (mnM 1 k) (mnM 1 k) _ HRY.out HRX.out
    rw [HCS.out,HYC.out,eqMo_refl] at heq
    refine heq.mono ?_
    rintro e w8 ⟨rfl,hb⟩
    have HB8:=hid (HB.out.trans (hb.mono HB.out.size))
    clear hb heq
    go_wp2_with fail
    go_ret
    exact ⟨rfl,HB8.out⟩
end Go.Proofs.YtbkofpljchkkaaaGreat
