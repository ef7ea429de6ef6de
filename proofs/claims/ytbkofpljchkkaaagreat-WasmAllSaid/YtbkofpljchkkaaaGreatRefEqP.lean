/- Words: RefEqP. -/
import Derived.BigRegion
import Derived.Handy
import Derived.Test.YtbkofpljchkkaaaGreatRefEqB
import Derived.Test.YtbkofpljchkkaaaGreatWE
import Derived.Test.YtbkofpljchkkaaaGreatKE
set_option maxRecDepth 100000
set_option maxHeartbeats 8000000
namespace Go.Proofs.YtbkofpljchkkaaaGreat
open Go.RowKit
def uY (M N:MMo):Bool:=eqG qHq M.elems N.elems && eqG qGh M.codes N.codes && eqG qHr M.datas N.datas
theorem qFo (V W:MoV) (M N:MMo) (w:World) (h:Rx w (MoR V M)) (h':Rx w (MoR W N)) :
    Calls Tryz.prog 46 #[.agg (V.cells M).toArray,.agg (W.cells N).toArray] w fun e w'=>e=.returned (.bool (uY M N)) /\ Below w.heap.size w w':=by
 obtain ⟨⟨ot,nt,ct⟩,⟨oi,ni,ci⟩,⟨of,nf,cf⟩,⟨og,ng,cg⟩,⟨oe,ne,ce⟩,⟨ol,nl,cl⟩,⟨oc,nc,cc⟩,⟨od,nd,cd⟩⟩:=V
 obtain ⟨⟨ot',nt',ct'⟩,⟨oi',ni',ci'⟩,⟨of',nf',cf'⟩,⟨og',ng',cg'⟩,⟨oe',ne',ce'⟩,⟨ol',nl',cl'⟩,⟨oc',nc',cc'⟩,⟨od',nd',cd'⟩⟩:=W
 obtain ⟨T,I,F,⟨th,tm,tx⟩,⟨mh,mm,mx⟩,G,E,L,C,D⟩:=M
 obtain ⟨T',I',F',⟨th',tm',tx'⟩,⟨mh',mm',mx'⟩,G',E',L',C',D'⟩:=N
 simp only [MoV.cells]
 have HQl:Hid (Rx w fun w=>RdG 2 ElR w ol nl cl L):=hid (h.imp fun _ h=>h.l)
 have HLl:Hid (L.length=nl):=hid h.now.l.len
 have h63l:nl <= 9223372036854775807:=h.now.l.cap63.1
 have HQl':Hid (Rx w fun w=>RdG 2 ElR w ol' nl' cl' L'):=hid (h'.imp fun _ h=>h.l)
 have HLl':Hid (L'.length=nl'):=hid h'.now.l.len
 have h63l':nl' <= 9223372036854775807:=h'.now.l.cap63.1
 have HQc:Hid (Rx w fun w=>RdG 2 CoR w oc nc cc C):=hid (h.imp fun _ h=>h.c)
 have HLc:Hid (C.length=nc):=hid h.now.c.len
 have h63c:nc <= 9223372036854775807:=h.now.c.cap63.1
 have HQc':Hid (Rx w fun w=>RdG 2 CoR w oc' nc' cc' C'):=hid (h'.imp fun _ h=>h.c)
 have HLc':Hid (C'.length=nc'):=hid h'.now.c.len
 have h63c':nc' <= 9223372036854775807:=h'.now.c.cap63.1
 have HQd:Hid (Rx w fun w=>RdG 2 DaR w od nd cd D):=hid (h.imp fun _ h=>h.d)
 have HLd:Hid (D.length=nd):=hid h.now.d.len
 have h63d:nd <= 9223372036854775807:=h.now.d.cap63.1
 have HQd':Hid (Rx w fun w=>RdG 2 DaR w od' nd' cd' D'):=hid (h'.imp fun _ h=>h.d)
 have HLd':Hid (D'.length=nd'):=hid h'.now.d.len
 have h63d':nd' <= 9223372036854775807:=h'.now.d.cap63.1
 obtain ⟨r,hr⟩:∃ r,uY ⟨T,I,F,⟨th,tm,tx⟩,⟨mh,mm,mx⟩,G,E,L,C,D⟩ ⟨T',I',F',⟨th',tm',tx'⟩,⟨mh',mm',mx'⟩,G',E',L',C',D'⟩=r:=⟨_,rfl⟩
 rw [hr]
 have HR:=hid hr
 have hb0:Below w.heap.size w ((w.alloc (.cells #[.slice ot nt ct,.slice oi ni ci,.slice of nf cf,.bool th,.int .i64 tm,.int .i64 tx,.bool mh,.int .i64 mm,.int .i64 mx,.slice og ng cg,.slice oe ne ce,.slice ol nl cl,.slice oc nc cc,.slice od nd cd] 33)).alloc (.cells #[.slice ot' nt' ct',.slice oi' ni' ci',.slice of' nf' cf',.bool th',.int .i64 tm',.int .i64 tx',.bool mh',.int .i64 mm',.int .i64 mx',.slice og' ng' cg',.slice oe' ne' ce',.slice ol' nl' cl',.slice oc' nc' cc',.slice od' nd' cd'] 33)):=Bl.alloc (Bl.alloc (Bl.refl w) _) _
 have HB00:=hid hb0
 have hx0:Cel ((w.alloc (.cells #[.slice ot nt ct,.slice oi ni ci,.slice of nf cf,.bool th,.int .i64 tm,.int .i64 tx,.bool mh,.int .i64 mm,.int .i64 mx,.slice og ng cg,.slice oe ne ce,.slice ol nl cl,.slice oc nc cc,.slice od nd cd] 33)).alloc (.cells #[.slice ot' nt' ct',.slice oi' ni' ci',.slice of' nf' cf',.bool th',.int .i64 tm',.int .i64 tx',.bool mh',.int .i64 mm',.int .i64 mx',.slice og' ng' cg',.slice oe' ne' ce',.slice ol' nl' cl',.slice oc' nc' cc',.slice od' nd' cd'] 33)) w.heap.size [.slice ot nt ct,.slice oi ni ci,.slice of nf cf,.bool th,.int .i64 tm,.int .i64 tx,.bool mh,.int .i64 mm,.int .i64 mx,.slice og ng cg,.slice oe ne ce,.slice ol nl cl,.slice oc nc cc,.slice od nd cd]:=(Cel.new w [.slice ot nt ct,.slice oi ni ci,.slice of nf cf,.bool th,.int .i64 tm,.int .i64 tx,.bool mh,.int .i64 mm,.int .i64 mx,.slice og ng cg,.slice oe ne ce,.slice ol nl cl,.slice oc nc cc,.slice od nd cd] 33).below (qW5 _) (Bl.alloc (Bl.refl _) _)
 have hy0:Cel ((w.alloc (.cells #[.slice ot nt ct,.slice oi ni ci,.slice of nf cf,.bool th,.int .i64 tm,.int .i64 tx,.bool mh,.int .i64 mm,.int .i64 mx,.slice og ng cg,.slice oe ne ce,.slice ol nl cl,.slice oc nc cc,.slice od nd cd] 33)).alloc (.cells #[.slice ot' nt' ct',.slice oi' ni' ci',.slice of' nf' cf',.bool th',.int .i64 tm',.int .i64 tx',.bool mh',.int .i64 mm',.int .i64 mx',.slice og' ng' cg',.slice oe' ne' ce',.slice ol' nl' cl',.slice oc' nc' cc',.slice od' nd' cd'] 33)) (w.heap.size + 1) [.slice ot' nt' ct',.slice oi' ni' ci',.slice of' nf' cf',.bool th',.int .i64 tm',.int .i64 tx',.bool mh',.int .i64 mm',.int .i64 mx',.slice og' ng' cg',.slice oe' ne' ce',.slice ol' nl' cl',.slice oc' nc' cc',.slice od' nd' cd']:=by have:=Cel.new (w.alloc (.cells #[.slice ot nt ct,.slice oi ni ci,.slice of nf cf,.bool th,.int .i64 tm,.int .i64 tx,.bool mh,.int .i64 mm,.int .i64 mx,.slice og ng cg,.slice oe ne ce,.slice ol nl cl,.slice oc nc cc,.slice od nd cd] 33)) [.slice ot' nt' ct',.slice oi' ni' ci',.slice of' nf' cf',.bool th',.int .i64 tm',.int .i64 tx',.bool mh',.int .i64 mm',.int .i64 mx',.slice og' ng' cg',.slice oe' ne' ce',.slice ol' nl' cl',.slice oc' nc' cc',.slice od' nd' cd'] 33;simpa using this
 have hz0:((w.alloc (.cells #[.slice ot nt ct,.slice oi ni ci,.slice of nf cf,.bool th,.int .i64 tm,.int .i64 tx,.bool mh,.int .i64 mm,.int .i64 mx,.slice og ng cg,.slice oe ne ce,.slice ol nl cl,.slice oc nc cc,.slice od nd cd] 33)).alloc (.cells #[.slice ot' nt' ct',.slice oi' ni' ci',.slice of' nf' cf',.bool th',.int .i64 tm',.int .i64 tx',.bool mh',.int .i64 mm',.int .i64 mx',.slice og' ng' cg',.slice oe' ne' ce',.slice ol' nl' cl',.slice oc' nc' cc',.slice od' nd' cd'] 33)).heap.size=w.heap.size + 2:=by simp
 obtain ⟨w0,hw0⟩:∃ w0,((w.alloc (.cells #[.slice ot nt ct,.slice oi ni ci,.slice of nf cf,.bool th,.int .i64 tm,.int .i64 tx,.bool mh,.int .i64 mm,.int .i64 mx,.slice og ng cg,.slice oe ne ce,.slice ol nl cl,.slice oc nc cc,.slice od nd cd] 33)).alloc (.cells #[.slice ot' nt' ct',.slice oi' ni' ci',.slice of' nf' cf',.bool th',.int .i64 tm',.int .i64 tx',.bool mh',.int .i64 mm',.int .i64 mx',.slice og' ng' cg',.slice oe' ne' ce',.slice ol' nl' cl',.slice oc' nc' cc',.slice od' nd' cd'] 33))=w0:=⟨_,rfl⟩
 rw [hw0] at hb0 hx0 hy0 hz0
 have HB0:=hid hb0
 have HX0:=hid hx0
 have HY0:=hid hy0
 have HZ0:=hid hz0
 have HW0:=hid hw0
 clear hb0 hx0 hy0 hz0 hw0
 clear h h' hr
 go_enter Tryz.func46,Tryz.ntmps46
 have HB:Hid (Below w0.heap.size w0 w0):=hid (qXh _ _)
 rcases Nat.decEq nl nl' with hne | heq
 ·
  have e1:((nl:Int) != (nl':Int))=true:=by simp;omega
  have hq:=hid (zH (e:=qHq) (show ¬ L.length=L'.length by rw [HLl.out,HLl'.out];exact hne));go_wp2_with fail;exact bodyPost_ret (v:=.bool false) (by simp [results,Tryz.results46,go_sem]) rfl ⟨rb (by rw [<- HR.out];simp [uY,hq.out]),HB00.out⟩
 subst heq
 rcases Nat.decEq nc nc' with hne | heq
 ·
  have e1:((nc:Int) != (nc':Int))=true:=by simp;omega
  have hq:=hid (zH (e:=qGh) (show ¬ C.length=C'.length by rw [HLc.out,HLc'.out];exact hne));go_wp2_with fail;exact bodyPost_ret (v:=.bool false) (by simp [results,Tryz.results46,go_sem]) rfl ⟨rb (by rw [<- HR.out];simp [uY,hq.out]),HB00.out⟩
 subst heq
 rcases Nat.decEq nd nd' with hne | heq
 ·
  have e1:((nd:Int) != (nd':Int))=true:=by simp;omega
  have hq:=hid (zH (e:=qHr) (show ¬ D.length=D'.length by rw [HLd.out,HLd'.out];exact hne));go_wp2_with fail;exact bodyPost_ret (v:=.bool false) (by simp [results,Tryz.results46,go_sem]) rfl ⟨rb (by rw [<- HR.out];simp [uY,hq.out]),HB00.out⟩
 subst heq
 go_wp2_with fail
 rw [HW0.out]
 go_loopw [5] (fun i wr=>∃ k:Nat,k <= nl /\ i=.int .i64 k /\ Hid (((L.zip L').take k).all (fun q=>qHq q.1 q.2)=true) /\ Below w0.heap.size w0 wr) (fun i _=>nl - (intOf i).toNat)
 case atStart=>exact ⟨0,qXf _,rfl,by simp [Hid],HB.out⟩
 case round =>
  obtain ⟨k,hkn,rfl,HA,hb⟩:=hrel;clear HB;have hsz:=hb.size;rw [HZ0.out] at hsz;have hp1:w.heap.size < wr.heap.size:=by omega
  have hp2:w.heap.size + 1 < wr.heap.size:=by omega
  have HB:=hid hb;clear hb;have HX:=hid (HX0.out.keep (show w.heap.size < w0.heap.size by rw [HZ0.out];omega) HB.out);have HY:=hid (HY0.out.keep (show w.heap.size + 1 < w0.heap.size by rw [HZ0.out];omega) HB.out);have hcx:=HX.out.cell 11 _ rfl;have hcy:=HY.out.cell 11 _ rfl;by_cases hk:k < nl
  ·
   obtain ⟨x,hx⟩:∃ x,L[k]?=some x:=⟨L[k]'(by rw [HLl.out];omega),qW6 (by rw [HLl.out];omega)⟩
   obtain ⟨z,hz⟩:∃ y,L'[k]?=some y:=⟨L'[k]'(by rw [HLl'.out];omega),qW6 (by rw [HLl'.out];omega)⟩
   have hzp:(L.zip L')[k]?=some (x,z):=by rw [List.getElem?_zip_eq_some];exact ⟨hx,hz⟩
   have hcut:=hid (qX (fun q:MEl × MEl=>qHq q.1 q.2) (L.zip L') k _ hzp HA.out);obtain ⟨b,off,cs,rfl,hcl,hRR,hc⟩:=RdG.elem (HQl.out.below (HB0.out.trans (HB.out.mono (show w.heap.size <= w0.heap.size by rw [HZ0.out];omega)))) hx;obtain ⟨b',off',cs',rfl,hcl',hRR',hc'⟩:=RdG.elem (HQl'.out.below (HB0.out.trans (HB.out.mono (show w.heap.size <= w0.heap.size by rw [HZ0.out];omega)))) hz;obtain ⟨y1,y2⟩:=x;obtain ⟨a2,m2,k2,rfl,hr2⟩:=hRR.now;obtain ⟨z1,z2⟩:=z;obtain ⟨d2,j2,i2,rfl,gr2⟩:=hRR'.now;have HR2:=hid hr2;have GR2:=hid gr2;have fc0:=hc 0 _ rfl;rw [qXd] at fc0;have fc1:=hc 1 _ rfl;have gc0:=hc' 0 _ rfl;rw [qXd] at gc0;have gc1:=hc' 1 _ rfl;have hlb:=qXc _ _ fc0;have hlb':=qXc _ _ gc0;simp only at fc0 fc1 gc0 gc1 hlb hlb';clear hc hRR hx hcl hc' hRR' hz hcl' hzp hr2 gr2
   obtain ⟨p2,hp2⟩:∃ p,(y2 == z2)=p:=⟨_,rfl⟩
   have HP2:=hid hp2;have hev:=hid (show qHq ⟨y1,y2⟩ ⟨z1,z2⟩=((y1 == z1) && p2) by show ((y1 == z1) && (y2 == z2))=_;rw [hp2]);clear hp2
   cases t1:y1 == z1 with
   | false =>
     have nn:(y1 != z1)=true:=by simp only [bne,t1];rfl
     have T1:=hid t1;go_wp2_with fail;refine qK (by kernel_rfl) (by kernel_rfl) ?_;have hbc:=fun x=>@Bw.cell wr x
     repeat (go_big_quiet_step (fail))
     refine wpQuiet_nil ?_;rintro _ ⟨x,rfl⟩;have HB2:=hid (HB.out.trans (x.h.mono HB.out.size));clear hbc hcx hcy fc0 fc1 gc0 gc1 hlb hlb';generalize x.w=w5 at HB2 ⊢;have hq:=hid ((jC (e:=qHq) (show L.length=L'.length by rw [HLl.out,HLl'.out])).trans (hcut.out.1 (by rw [hev.out,T1.out];rfl)));clear hcut HA;go_wp2_with fail;exact bodyPost_ret (v:=.bool false) (by simp [results,Tryz.results46,go_sem]) rfl ⟨rb (by rw [<- HR.out];simp [uY,hq.out]),HB0.out.trans (Below.mono (HB2.out) (show w.heap.size <= w0.heap.size by rw [HZ0.out];omega))⟩
   | true =>
     have nn:(y1 != z1)=false:=by simp only [bne,t1];rfl
     have T1:=hid t1
     cases p2 with
     | false =>
       go_wp2_with fail;refine qK (by kernel_rfl) (by kernel_rfl) ?_;have hbc:=fun x=>@Bw.cell wr x
       repeat (go_big_quiet_step (first
        | (go_at_call 44;(with_reducible show Calls _ _ #[.slice a2 m2 k2,.slice d2 j2 i2] _ _);exact Calls.bw (zE a2 d2 m2 j2 k2 i2 y2 z2 _ HP2.out _ (HR2.out.below (Bw.h _)) (GR2.out.below (Bw.h _))))))
       refine wpQuiet_nil ?_;rintro _ ⟨x,rfl⟩;have HB2:=hid (HB.out.trans (x.h.mono HB.out.size));clear hbc hcx hcy fc0 fc1 gc0 gc1 hlb hlb';generalize x.w=w5 at HB2 ⊢;have hq:=hid ((jC (e:=qHq) (show L.length=L'.length by rw [HLl.out,HLl'.out])).trans (hcut.out.1 (by rw [hev.out,T1.out];rfl)));clear hcut HA;go_wp2_with fail;exact bodyPost_ret (v:=.bool false) (by simp [results,Tryz.results46,go_sem]) rfl ⟨rb (by rw [<- HR.out];simp [uY,hq.out]),HB0.out.trans (Below.mono (HB2.out) (show w.heap.size <= w0.heap.size by rw [HZ0.out];omega))⟩
     | true =>
       go_wp2_with fail;refine qK (by kernel_rfl) (by kernel_rfl) ?_;have hbc:=fun x=>@Bw.cell wr x
       repeat (go_big_quiet_step (first
        | (go_at_call 44;(with_reducible show Calls _ _ #[.slice a2 m2 k2,.slice d2 j2 i2] _ _);exact Calls.bw (zE a2 d2 m2 j2 k2 i2 y2 z2 _ HP2.out _ (HR2.out.below (Bw.h _)) (GR2.out.below (Bw.h _))))))
       refine wpQuiet_nil ?_;rintro _ ⟨x,rfl⟩;have HB2:=hid (HB.out.trans (x.h.mono HB.out.size));clear hbc hcx hcy fc0 fc1 gc0 gc1 hlb hlb';generalize x.w=w5 at HB2 ⊢;have HA2:=hid (hcut.out.2 (by rw [hev.out,T1.out];rfl));clear hcut HA;go_wp2_with fail;go_roundw
       case rel=>exact ⟨k + 1,by omega,by go_num,HA2.out,HB2.out⟩
       case measure=>simp [intOf];omega
  ·
   have e0:k=nl:=by omega
   subst e0;have ht:(L.zip L').take k=L.zip L':=qW9 (by rw [List.length_zip,HLl.out,HLl'.out];simp);have ha:=HA.out;rw [ht] at ha;have HEl:=hid ((jC (e:=qHq) (show L.length=L'.length by rw [HLl.out,HLl'.out])).trans ha);clear ht ha HA hk hkn hsz
   obtain ⟨wo,rfl⟩:∃ wo:World,wo=wr:=⟨_,rfl⟩
   go_wp2_with fail;clear hcx hcy hp1 hp2;go_loopw [6] (fun i wr=>∃ k:Nat,k <= nc /\ i=.int .i64 k /\ Hid (((C.zip C').take k).all (fun q=>qGh q.1 q.2)=true) /\ Below w0.heap.size w0 wr) (fun i _=>nc - (intOf i).toNat)
   case atStart=>exact ⟨0,qXf _,rfl,by simp [Hid],HB.out⟩
   case round =>
    obtain ⟨k,hkn,rfl,HA,hb⟩:=hrel;clear HB;have hsz:=hb.size;rw [HZ0.out] at hsz;have hp1:w.heap.size < wr.heap.size:=by omega
    have hp2:w.heap.size + 1 < wr.heap.size:=by omega
    have HB:=hid hb;clear hb;have HX:=hid (HX0.out.keep (show w.heap.size < w0.heap.size by rw [HZ0.out];omega) HB.out);have HY:=hid (HY0.out.keep (show w.heap.size + 1 < w0.heap.size by rw [HZ0.out];omega) HB.out);have hcx:=HX.out.cell 12 _ rfl;have hcy:=HY.out.cell 12 _ rfl;by_cases hk:k < nc
    ·
     obtain ⟨x,hx⟩:∃ x,C[k]?=some x:=⟨C[k]'(by rw [HLc.out];omega),qW6 (by rw [HLc.out];omega)⟩
     obtain ⟨z,hz⟩:∃ y,C'[k]?=some y:=⟨C'[k]'(by rw [HLc'.out];omega),qW6 (by rw [HLc'.out];omega)⟩
     have hzp:(C.zip C')[k]?=some (x,z):=by rw [List.getElem?_zip_eq_some];exact ⟨hx,hz⟩
     have hcut:=hid (qX (fun q:MCo × MCo=>qGh q.1 q.2) (C.zip C') k _ hzp HA.out);obtain ⟨b,off,cs,rfl,hcl,hRR,hc⟩:=RdG.elem (HQc.out.below (HB0.out.trans (HB.out.mono (show w.heap.size <= w0.heap.size by rw [HZ0.out];omega)))) hx;obtain ⟨b',off',cs',rfl,hcl',hRR',hc'⟩:=RdG.elem (HQc'.out.below (HB0.out.trans (HB.out.mono (show w.heap.size <= w0.heap.size by rw [HZ0.out];omega)))) hz;obtain ⟨y1,y2⟩:=x;obtain ⟨z1,z2⟩:=z;obtain ⟨a1,m1,k1,a2,m2,k2,rfl,hr1,hr2⟩:=qA2 hRR;obtain ⟨d1,j1,i1,d2,j2,i2,rfl,gr1,gr2⟩:=qA2 hRR';have HR1:=hid hr1;have HR2:=hid hr2;have GR1:=hid gr1;have GR2:=hid gr2;have fc0:=hc 0 _ rfl;rw [qXd] at fc0;have fc1:=hc 1 _ rfl;have gc0:=hc' 0 _ rfl;rw [qXd] at gc0;have gc1:=hc' 1 _ rfl;have hlb:=qXc _ _ fc0;have hlb':=qXc _ _ gc0;simp only at fc0 fc1 gc0 gc1 hlb hlb';clear hc hRR hx hcl hc' hRR' hz hcl' hzp hr1 hr2 gr1 gr2
     obtain ⟨p1,hp1'⟩:∃ p,(y1 == z1)=p:=⟨_,rfl⟩
     obtain ⟨p2,hp2'⟩:∃ p,eqG qPx y2 z2=p:=⟨_,rfl⟩
     have HP1:=hid hp1';have HP2:=hid hp2';have hev:=hid (show qGh ⟨y1,y2⟩ ⟨z1,z2⟩=(p1 && p2) by show ((y1 == z1) && eqG qPx y2 z2)=_;rw [hp1',hp2']);clear hp1' hp2';have HBW:=hid (((Bl.alloc (Bl.alloc (Bl.refl wr) (.cells #[.slice a1 m1 k1,.slice a2 m2 k2] 49)) (.cells #[.slice d1 j1 i1,.slice d2 j2 i2] 49))).drew);have HBV:=hid (((Bl.alloc (Bl.alloc (Bl.refl wr) (.cells #[.slice d1 j1 i1,.slice d2 j2 i2] 49)) (.cells #[.slice a1 m1 k1,.slice a2 m2 k2] 49))).drew);go_wp2_with fail;go_region
     all_goals clear hcx hcy fc0 fc1 gc0 gc1 hlb hlb'
     ·
      have HXX:Hid (Cel ((wr.alloc (.cells #[.slice a1 m1 k1,.slice a2 m2 k2] 49)).alloc (.cells #[.slice d1 j1 i1,.slice d2 j2 i2] 49)).drew wr.heap.size [.slice a1 m1 k1,.slice a2 m2 k2]):=hid (((Cel.new wr [.slice a1 m1 k1,.slice a2 m2 k2] 49).below (qW5 _) (Bl.alloc (Bl.refl _) _)).same rfl);have HYY:Hid (Cel ((wr.alloc (.cells #[.slice a1 m1 k1,.slice a2 m2 k2] 49)).alloc (.cells #[.slice d1 j1 i1,.slice d2 j2 i2] 49)).drew (wr.heap.size + 1) [.slice d1 j1 i1,.slice d2 j2 i2]):=hid (by have:=Cel.new (wr.alloc (.cells #[.slice a1 m1 k1,.slice a2 m2 k2] 49)) [.slice d1 j1 i1,.slice d2 j2 i2] 49;rw [World.size_alloc] at this;exact this.same rfl);go_wp2_with fail;refine (zE a1 d1 m1 j1 k1 i1 y1 z1 _ HP1.out _ (HR1.out.below HBW.out) (GR1.out.below HBW.out)).mono ?_;rintro e w7 ⟨rfl,hb7⟩;have HB7:=hid (HBW.out.trans (hb7.mono HBW.out.size));have hc7:=HXX.out.below (qW5 _) hb7;have hd7:=HYY.out.below (qW5 _) hb7;have x1:=hc7.cell 1 _ rfl;have x2:=hd7.cell 1 _ rfl;clear hb7 hc7 hd7
      cases p1 with
      | false =>
        have hq:=hid ((jC (e:=qGh) (show C.length=C'.length by rw [HLc.out,HLc'.out])).trans (hcut.out.1 (hev.out)));clear hcut HA;go_wp2_with fail;exact bodyPost_ret (v:=.bool false) (by simp [results,Tryz.results46,go_sem]) rfl ⟨rb (by rw [<- HR.out];simp [uY,hq.out]),HB0.out.trans (Below.mono (HB.out.trans (HB7.out.mono HB.out.size)) (show w.heap.size <= w0.heap.size by rw [HZ0.out];omega))⟩
      | true =>
        go_wp2_with fail;refine (qD9 a2 m2 k2 y2 d2 j2 i2 z2 _ (HR2.out.below HB7.out) (GR2.out.below HB7.out)).mono ?_;rintro e w8 ⟨rfl,hb8⟩;rw [HP2.out];have HB8:=hid (HB7.out.trans (hb8.mono HB7.out.size));clear hb8 x1 x2
        cases p2 with
        | false =>
          have hq:=hid ((jC (e:=qGh) (show C.length=C'.length by rw [HLc.out,HLc'.out])).trans (hcut.out.1 (hev.out)));clear hcut HA;go_wp2_with fail;exact bodyPost_ret (v:=.bool false) (by simp [results,Tryz.results46,go_sem]) rfl ⟨rb (by rw [<- HR.out];simp [uY,hq.out]),HB0.out.trans (Below.mono (HB.out.trans (HB8.out.mono HB.out.size)) (show w.heap.size <= w0.heap.size by rw [HZ0.out];omega))⟩
        | true =>
          have HA2:=hid (hcut.out.2 (hev.out));clear hcut HA;go_wp2_with fail;go_roundw
          case rel=>exact ⟨k + 1,by omega,by go_num,HA2.out,HB.out.trans (HB8.out.mono HB.out.size)⟩
          case measure=>simp [intOf];omega
     ·
      have HYY:Hid (Cel ((wr.alloc (.cells #[.slice d1 j1 i1,.slice d2 j2 i2] 49)).alloc (.cells #[.slice a1 m1 k1,.slice a2 m2 k2] 49)).drew wr.heap.size [.slice d1 j1 i1,.slice d2 j2 i2]):=hid (((Cel.new wr [.slice d1 j1 i1,.slice d2 j2 i2] 49).below (qW5 _) (Bl.alloc (Bl.refl _) _)).same rfl);have HXX:Hid (Cel ((wr.alloc (.cells #[.slice d1 j1 i1,.slice d2 j2 i2] 49)).alloc (.cells #[.slice a1 m1 k1,.slice a2 m2 k2] 49)).drew (wr.heap.size + 1) [.slice a1 m1 k1,.slice a2 m2 k2]):=hid (by have:=Cel.new (wr.alloc (.cells #[.slice d1 j1 i1,.slice d2 j2 i2] 49)) [.slice a1 m1 k1,.slice a2 m2 k2] 49;rw [World.size_alloc] at this;exact this.same rfl);go_wp2_with fail;refine (zE a1 d1 m1 j1 k1 i1 y1 z1 _ HP1.out _ (HR1.out.below HBV.out) (GR1.out.below HBV.out)).mono ?_;rintro e w7 ⟨rfl,hb7⟩;have HB7:=hid (HBV.out.trans (hb7.mono HBV.out.size));have hc7:=HXX.out.below (qW5 _) hb7;have hd7:=HYY.out.below (qW5 _) hb7;have x1:=hc7.cell 1 _ rfl;have x2:=hd7.cell 1 _ rfl;clear hb7 hc7 hd7
      cases p1 with
      | false =>
        have hq:=hid ((jC (e:=qGh) (show C.length=C'.length by rw [HLc.out,HLc'.out])).trans (hcut.out.1 (hev.out)));clear hcut HA;go_wp2_with fail;exact bodyPost_ret (v:=.bool false) (by simp [results,Tryz.results46,go_sem]) rfl ⟨rb (by rw [<- HR.out];simp [uY,hq.out]),HB0.out.trans (Below.mono (HB.out.trans (HB7.out.mono HB.out.size)) (show w.heap.size <= w0.heap.size by rw [HZ0.out];omega))⟩
      | true =>
        go_wp2_with fail;refine (qD9 a2 m2 k2 y2 d2 j2 i2 z2 _ (HR2.out.below HB7.out) (GR2.out.below HB7.out)).mono ?_;rintro e w8 ⟨rfl,hb8⟩;rw [HP2.out];have HB8:=hid (HB7.out.trans (hb8.mono HB7.out.size));clear hb8 x1 x2
        cases p2 with
        | false =>
          have hq:=hid ((jC (e:=qGh) (show C.length=C'.length by rw [HLc.out,HLc'.out])).trans (hcut.out.1 (hev.out)));clear hcut HA;go_wp2_with fail;exact bodyPost_ret (v:=.bool false) (by simp [results,Tryz.results46,go_sem]) rfl ⟨rb (by rw [<- HR.out];simp [uY,hq.out]),HB0.out.trans (Below.mono (HB.out.trans (HB8.out.mono HB.out.size)) (show w.heap.size <= w0.heap.size by rw [HZ0.out];omega))⟩
        | true =>
          have HA2:=hid (hcut.out.2 (hev.out));clear hcut HA;go_wp2_with fail;go_roundw
          case rel=>exact ⟨k + 1,by omega,by go_num,HA2.out,HB.out.trans (HB8.out.mono HB.out.size)⟩
          case measure=>simp [intOf];omega
    ·
     have e0:k=nc:=by omega
     subst e0;have ht:(C.zip C').take k=C.zip C':=qW9 (by rw [List.length_zip,HLc.out,HLc'.out];simp);have ha:=HA.out;rw [ht] at ha;have HEc:=hid ((jC (e:=qGh) (show C.length=C'.length by rw [HLc.out,HLc'.out])).trans ha);clear ht ha HA hk hkn hsz
     obtain ⟨wo,rfl⟩:∃ wo:World,wo=wr:=⟨_,rfl⟩
     go_wp2_with fail;clear hcx hcy hp1 hp2;go_loopw [9] (fun i wr=>∃ k:Nat,k <= nd /\ i=.int .i64 k /\ Hid (((D.zip D').take k).all (fun q=>qHr q.1 q.2)=true) /\ Below w0.heap.size w0 wr) (fun i _=>nd - (intOf i).toNat)
     case atStart=>exact ⟨0,qXf _,rfl,by simp [Hid],HB.out⟩
     case round =>
      obtain ⟨k,hkn,rfl,HA,hb⟩:=hrel;clear HB;have hsz:=hb.size;rw [HZ0.out] at hsz;have hp1:w.heap.size < wr.heap.size:=by omega
      have hp2:w.heap.size + 1 < wr.heap.size:=by omega
      have HB:=hid hb;clear hb;have HX:=hid (HX0.out.keep (show w.heap.size < w0.heap.size by rw [HZ0.out];omega) HB.out);have HY:=hid (HY0.out.keep (show w.heap.size + 1 < w0.heap.size by rw [HZ0.out];omega) HB.out);have hcx:=HX.out.cell 13 _ rfl;have hcy:=HY.out.cell 13 _ rfl;by_cases hk:k < nd
      ·
       obtain ⟨x,hx⟩:∃ x,D[k]?=some x:=⟨D[k]'(by rw [HLd.out];omega),qW6 (by rw [HLd.out];omega)⟩
       obtain ⟨z,hz⟩:∃ y,D'[k]?=some y:=⟨D'[k]'(by rw [HLd'.out];omega),qW6 (by rw [HLd'.out];omega)⟩
       have hzp:(D.zip D')[k]?=some (x,z):=by rw [List.getElem?_zip_eq_some];exact ⟨hx,hz⟩
       have hcut:=hid (qX (fun q:MDa × MDa=>qHr q.1 q.2) (D.zip D') k _ hzp HA.out);obtain ⟨b,off,cs,rfl,hcl,hRR,hc⟩:=RdG.elem (HQd.out.below (HB0.out.trans (HB.out.mono (show w.heap.size <= w0.heap.size by rw [HZ0.out];omega)))) hx;obtain ⟨b',off',cs',rfl,hcl',hRR',hc'⟩:=RdG.elem (HQd'.out.below (HB0.out.trans (HB.out.mono (show w.heap.size <= w0.heap.size by rw [HZ0.out];omega)))) hz;obtain ⟨y1,y2⟩:=x;obtain ⟨a2,m2,k2,rfl,hr2⟩:=hRR.now;obtain ⟨z1,z2⟩:=z;obtain ⟨d2,j2,i2,rfl,gr2⟩:=hRR'.now;have HR2:=hid hr2;have GR2:=hid gr2;have fc0:=hc 0 _ rfl;rw [qXd] at fc0;have fc1:=hc 1 _ rfl;have gc0:=hc' 0 _ rfl;rw [qXd] at gc0;have gc1:=hc' 1 _ rfl;have hlb:=qXc _ _ fc0;have hlb':=qXc _ _ gc0;simp only at fc0 fc1 gc0 gc1 hlb hlb';clear hc hRR hx hcl hc' hRR' hz hcl' hzp hr2 gr2;have hev:=hid (show qHr ⟨y1,y2⟩ ⟨z1,z2⟩=((y1 == z1) && (y2 == z2)) from rfl);have HS1:=hid (fun x:Bw wr=>xP (P:=Tryz.prog) (HR2.out.below x.h) 37 9 5 Tryz.underlying37 Tryz.underlying5 Tryz.underlying9);have HS2:=hid (fun x:Bw wr=>xP (P:=Tryz.prog) (GR2.out.below x.h) 37 9 5 Tryz.underlying37 Tryz.underlying5 Tryz.underlying9);have HSE:=hid (show (strOfNums y2=strOfNums z2) ↔ y2=z2 from ⟨fun e=>qAt (qPv HR2.out) (qPv GR2.out) e,fun e=>by rw [e]⟩)
       obtain ⟨s1,hs1⟩:∃ s1,strOfNums y2=s1:=⟨_,rfl⟩
       obtain ⟨s2,hs2⟩:∃ s2,strOfNums z2=s2:=⟨_,rfl⟩
       rw [hs1] at HS1 HSE;rw [hs2] at HS2 HSE;clear hs1 hs2
       cases q0:y1 == z1 with
       | false =>
         have nn0:(y1 != z1)=true:=by simp only [bne,q0];rfl
         have Q0:=hid q0;go_wp2_with fail;refine qK (by kernel_rfl) (by kernel_rfl) ?_;have hbc:=fun x=>@Bw.cell wr x
         repeat (go_big_quiet_step (fail))
         refine wpQuiet_nil ?_;rintro _ ⟨x,rfl⟩;have HB2:=hid (HB.out.trans (x.h.mono HB.out.size));clear hbc hcx hcy fc0 fc1 gc0 gc1 hlb hlb';generalize x.w=w5 at HB2 ⊢;have hq:=hid ((jC (e:=qHr) (show D.length=D'.length by rw [HLd.out,HLd'.out])).trans (hcut.out.1 (by rw [hev.out,Q0.out];rfl)));clear hcut HA;go_wp2_with fail;exact bodyPost_ret (v:=.bool false) (by simp [results,Tryz.results46,go_sem]) rfl ⟨rb (by rw [<- HR.out];simp [uY,hq.out]),HB0.out.trans (Below.mono (HB2.out) (show w.heap.size <= w0.heap.size by rw [HZ0.out];omega))⟩
       | true =>
         have nn0:(y1 != z1)=false:=by simp only [bne,q0];rfl
         have Q0:=hid q0;have hv1:=HS1.out;have hv2:=HS2.out;by_cases ss:y2=z2
         ·
          have es:s1=s2:=HSE.out.2 ss;subst es;have SS:=hid ss;clear ss;go_wp2_with fail;refine qK (by kernel_rfl) (by kernel_rfl) ?_;have hbc:=fun x=>@Bw.cell wr x
          repeat (go_big_quiet_step (fail))
          refine wpQuiet_nil ?_;rintro _ ⟨x,rfl⟩;have HB2:=hid (HB.out.trans (x.h.mono HB.out.size));clear hbc hcx hcy fc0 fc1 gc0 gc1 hlb hlb' hv1 hv2;generalize x.w=w5 at HB2 ⊢;have HA2:=hid (hcut.out.2 (by rw [hev.out,Q0.out,SS.out];simp));clear hcut HA;go_wp2_with fail;go_roundw
          case rel=>exact ⟨k + 1,by omega,by go_num,HA2.out,HB2.out⟩
          case measure=>simp [intOf];omega
         ·
          have es:¬ s1=s2:=fun h=>ss (HSE.out.1 h)
          have sn:¬ s1.toList=s2.toList:=fun h=>es (qEd h)
          have sb:(s1.toList == s2.toList)=false:=by simp [sn]
          have SS:=hid ss;clear ss es;go_wp2_with fail;refine qK (by kernel_rfl) (by kernel_rfl) ?_;have hbc:=fun x=>@Bw.cell wr x
          repeat (go_big_quiet_step (fail))
          refine wpQuiet_nil ?_;rintro _ ⟨x,rfl⟩;have HB2:=hid (HB.out.trans (x.h.mono HB.out.size));clear hbc hcx hcy fc0 fc1 gc0 gc1 hlb hlb' hv1 hv2;generalize x.w=w5 at HB2 ⊢;have hq:=hid ((jC (e:=qHr) (show D.length=D'.length by rw [HLd.out,HLd'.out])).trans (hcut.out.1 (by rw [hev.out];simp [SS.out])));clear hcut HA;go_wp2_with fail;exact bodyPost_ret (v:=.bool false) (by simp [results,Tryz.results46,go_sem]) rfl ⟨rb (by rw [<- HR.out];simp [uY,hq.out]),HB0.out.trans (Below.mono (HB2.out) (show w.heap.size <= w0.heap.size by rw [HZ0.out];omega))⟩
      ·
       have e0:k=nd:=by omega
       subst e0;have ht:(D.zip D').take k=D.zip D':=qW9 (by rw [List.length_zip,HLd.out,HLd'.out];simp);have ha:=HA.out;rw [ht] at ha;have HEd:=hid ((jC (e:=qHr) (show D.length=D'.length by rw [HLd.out,HLd'.out])).trans ha);clear ht ha HA hk hkn hsz
       obtain ⟨wo,rfl⟩:∃ wo:World,wo=wr:=⟨_,rfl⟩
       go_wp2_with fail;go_ret;exact ⟨rb (by rw [<- HR.out];simp [uY,HEl.out,HEc.out,HEd.out]),HB0.out.trans (HB.out.mono (show w.heap.size <= w0.heap.size by rw [HZ0.out];omega))⟩
end Go.Proofs.YtbkofpljchkkaaaGreat
