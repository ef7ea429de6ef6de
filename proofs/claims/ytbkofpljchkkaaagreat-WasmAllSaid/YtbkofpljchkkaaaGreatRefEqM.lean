/- Words: RefEqM. -/
import Derived.BigRegion
import Derived.Test.YtbkofpljchkkaaaGreatRefEqB
import Derived.Test.YtbkofpljchkkaaaGreatWE
import Derived.Test.YtbkofpljchkkaaaGreatKE
import Derived.Test.YtbkofpljchkkaaaGreatRefEqP
set_option maxRecDepth 100000
set_option maxHeartbeats 8000000
namespace Go.Proofs.YtbkofpljchkkaaaGreat
open Go.RowKit
theorem qVv (V W:MoV) (M N:MMo) (w:World) (h:Rx w (MoR V M)) (h':Rx w (MoR W N)) :
    Calls Tryz.prog 14 #[.agg (V.cells M).toArray,.agg (W.cells N).toArray] w fun e w'=>e=.returned (.bool (qAr M N)) /\ Below w.heap.size w w':=by
 obtain ⟨⟨ot,nt,ct⟩,⟨oi,ni,ci⟩,⟨of,nf,cf⟩,⟨og,ng,cg⟩,⟨oe,ne,ce⟩,⟨ol,nl,cl⟩,⟨oc,nc,cc⟩,⟨od,nd,cd⟩⟩:=V
 obtain ⟨⟨ot',nt',ct'⟩,⟨oi',ni',ci'⟩,⟨of',nf',cf'⟩,⟨og',ng',cg'⟩,⟨oe',ne',ce'⟩,⟨ol',nl',cl'⟩,⟨oc',nc',cc'⟩,⟨od',nd',cd'⟩⟩:=W
 obtain ⟨T,I,F,⟨th,tm,tx⟩,⟨mh,mm,mx⟩,G,E,L,C,D⟩:=M
 obtain ⟨T',I',F',⟨th',tm',tx'⟩,⟨mh',mm',mx'⟩,G',E',L',C',D'⟩:=N
 simp only [MoV.cells]
 have HQt:Hid (Rx w fun w=>RdG 2 TyR w ot nt ct T):=hid (h.imp fun _ h=>h.t)
 have HLt:Hid (T.length=nt):=hid h.now.t.len
 have h63t:nt <= 9223372036854775807:=h.now.t.cap63.1
 have HQt':Hid (Rx w fun w=>RdG 2 TyR w ot' nt' ct' T'):=hid (h'.imp fun _ h=>h.t)
 have HLt':Hid (T'.length=nt'):=hid h'.now.t.len
 have h63t':nt' <= 9223372036854775807:=h'.now.t.cap63.1
 have HQi:Hid (Rx w fun w=>RdG 3 ImR w oi ni ci I):=hid (h.imp fun _ h=>h.i)
 have HLi:Hid (I.length=ni):=hid h.now.i.len
 have h63i:ni <= 9223372036854775807:=h.now.i.cap63.1
 have HQi':Hid (Rx w fun w=>RdG 3 ImR w oi' ni' ci' I'):=hid (h'.imp fun _ h=>h.i)
 have HLi':Hid (I'.length=ni'):=hid h'.now.i.len
 have h63i':ni' <= 9223372036854775807:=h'.now.i.cap63.1
 have HQf:Hid (Rd .i64 w of nf cf F):=hid h.now.f
 have HQf':Hid (Rd .i64 w of' nf' cf' F'):=hid h'.now.f
 have HQg:Hid (Rx w fun w=>RdG 3 GlR w og ng cg G):=hid (h.imp fun _ h=>h.g)
 have HLg:Hid (G.length=ng):=hid h.now.g.len
 have h63g:ng <= 9223372036854775807:=h.now.g.cap63.1
 have HQg':Hid (Rx w fun w=>RdG 3 GlR w og' ng' cg' G'):=hid (h'.imp fun _ h=>h.g)
 have HLg':Hid (G'.length=ng'):=hid h'.now.g.len
 have h63g':ng' <= 9223372036854775807:=h'.now.g.cap63.1
 have HQe:Hid (Rx w fun w=>RdG 2 ExR w oe ne ce E):=hid (h.imp fun _ h=>h.e)
 have HLe:Hid (E.length=ne):=hid h.now.e.len
 have h63e:ne <= 9223372036854775807:=h.now.e.cap63.1
 have HQe':Hid (Rx w fun w=>RdG 2 ExR w oe' ne' ce' E'):=hid (h'.imp fun _ h=>h.e)
 have HLe':Hid (E'.length=ne'):=hid h'.now.e.len
 have h63e':ne' <= 9223372036854775807:=h'.now.e.cap63.1
 have HQl:Hid (Rx w fun w=>RdG 2 ElR w ol nl cl L):=hid (h.imp fun _ h=>h.l)
 have HLl:Hid (L.length=nl):=hid h.now.l.len
 have h63l:nl <= 9223372036854775807:=h.now.l.cap63.1
 have HQl':Hid (Rx w fun w=>RdG 2 ElR w ol' nl' cl' L'):=hid (h'.imp fun _ h=>h.l)
 have HLl':Hid (L'.length=nl'):=hid h'.now.l.len
 have h63l':nl' <= 9223372036854775807:=h'.now.l.cap63.1
 have HQc:Hid (Rx w fun w=>RdG 2 CoR w oc nc cc C):=hid (h.imp fun _ h=>h.c)
 have HLc:Hid (C.length=nc):=hid h.now.c.len
 have h63c:nc <= 9223372036854775807:=h.now.c.cap63.1
 have HQc':Hid (Rx w fun w=>RdG 2 CoR w oc' nc' cc' C'):=hid (h'.imp fun _ h=>h.c)
 have HLc':Hid (C'.length=nc'):=hid h'.now.c.len
 have h63c':nc' <= 9223372036854775807:=h'.now.c.cap63.1
 have HQd:Hid (Rx w fun w=>RdG 2 DaR w od nd cd D):=hid (h.imp fun _ h=>h.d)
 have HLd:Hid (D.length=nd):=hid h.now.d.len
 have h63d:nd <= 9223372036854775807:=h.now.d.cap63.1
 have HQd':Hid (Rx w fun w=>RdG 2 DaR w od' nd' cd' D'):=hid (h'.imp fun _ h=>h.d)
 have HLd':Hid (D'.length=nd'):=hid h'.now.d.len
 have h63d':nd' <= 9223372036854775807:=h'.now.d.cap63.1
 obtain ⟨r,hr⟩:∃ r,qAr ⟨T,I,F,⟨th,tm,tx⟩,⟨mh,mm,mx⟩,G,E,L,C,D⟩ ⟨T',I',F',⟨th',tm',tx'⟩,⟨mh',mm',mx'⟩,G',E',L',C',D'⟩=r:=⟨_,rfl⟩
 rw [hr]
 have HR:=hid hr
 have hb0:Below w.heap.size w ((w.alloc (.cells #[.slice ot nt ct,.slice oi ni ci,.slice of nf cf,.bool th,.int .i64 tm,.int .i64 tx,.bool mh,.int .i64 mm,.int .i64 mx,.slice og ng cg,.slice oe ne ce,.slice ol nl cl,.slice oc nc cc,.slice od nd cd] 33)).alloc (.cells #[.slice ot' nt' ct',.slice oi' ni' ci',.slice of' nf' cf',.bool th',.int .i64 tm',.int .i64 tx',.bool mh',.int .i64 mm',.int .i64 mx',.slice og' ng' cg',.slice oe' ne' ce',.slice ol' nl' cl',.slice oc' nc' cc',.slice od' nd' cd'] 33)):=Bl.alloc (Bl.alloc (Bl.refl w) _) _
 have HB00:=hid hb0
 have hx0:Cel ((w.alloc (.cells #[.slice ot nt ct,.slice oi ni ci,.slice of nf cf,.bool th,.int .i64 tm,.int .i64 tx,.bool mh,.int .i64 mm,.int .i64 mx,.slice og ng cg,.slice oe ne ce,.slice ol nl cl,.slice oc nc cc,.slice od nd cd] 33)).alloc (.cells #[.slice ot' nt' ct',.slice oi' ni' ci',.slice of' nf' cf',.bool th',.int .i64 tm',.int .i64 tx',.bool mh',.int .i64 mm',.int .i64 mx',.slice og' ng' cg',.slice oe' ne' ce',.slice ol' nl' cl',.slice oc' nc' cc',.slice od' nd' cd'] 33)) w.heap.size [.slice ot nt ct,.slice oi ni ci,.slice of nf cf,.bool th,.int .i64 tm,.int .i64 tx,.bool mh,.int .i64 mm,.int .i64 mx,.slice og ng cg,.slice oe ne ce,.slice ol nl cl,.slice oc nc cc,.slice od nd cd]:=(Cel.new w [.slice ot nt ct,.slice oi ni ci,.slice of nf cf,.bool th,.int .i64 tm,.int .i64 tx,.bool mh,.int .i64 mm,.int .i64 mx,.slice og ng cg,.slice oe ne ce,.slice ol nl cl,.slice oc nc cc,.slice od nd cd] 33).below (qW5 _) (Bl.alloc (Bl.refl _) _)
 have hy0:Cel ((w.alloc (.cells #[.slice ot nt ct,.slice oi ni ci,.slice of nf cf,.bool th,.int .i64 tm,.int .i64 tx,.bool mh,.int .i64 mm,.int .i64 mx,.slice og ng cg,.slice oe ne ce,.slice ol nl cl,.slice oc nc cc,.slice od nd cd] 33)).alloc (.cells #[.slice ot' nt' ct',.slice oi' ni' ci',.slice of' nf' cf',.bool th',.int .i64 tm',.int .i64 tx',.bool mh',.int .i64 mm',.int .i64 mx',.slice og' ng' cg',.slice oe' ne' ce',.slice ol' nl' cl',.slice oc' nc' cc',.slice od' nd' cd'] 33)) (w.heap.size + 1) [.slice ot' nt' ct',.slice oi' ni' ci',.slice of' nf' cf',.bool th',.int .i64 tm',.int .i64 tx',.bool mh',.int .i64 mm',.int .i64 mx',.slice og' ng' cg',.slice oe' ne' ce',.slice ol' nl' cl',.slice oc' nc' cc',.slice od' nd' cd']:=by have:=Cel.new (w.alloc (.cells #[.slice ot nt ct,.slice oi ni ci,.slice of nf cf,.bool th,.int .i64 tm,.int .i64 tx,.bool mh,.int .i64 mm,.int .i64 mx,.slice og ng cg,.slice oe ne ce,.slice ol nl cl,.slice oc nc cc,.slice od nd cd] 33)) [.slice ot' nt' ct',.slice oi' ni' ci',.slice of' nf' cf',.bool th',.int .i64 tm',.int .i64 tx',.bool mh',.int .i64 mm',.int .i64 mx',.slice og' ng' cg',.slice oe' ne' ce',.slice ol' nl' cl',.slice oc' nc' cc',.slice od' nd' cd'] 33;simpa using this
 have hz0:((w.alloc (.cells #[.slice ot nt ct,.slice oi ni ci,.slice of nf cf,.bool th,.int .i64 tm,.int .i64 tx,.bool mh,.int .i64 mm,.int .i64 mx,.slice og ng cg,.slice oe ne ce,.slice ol nl cl,.slice oc nc cc,.slice od nd cd] 33)).alloc (.cells #[.slice ot' nt' ct',.slice oi' ni' ci',.slice of' nf' cf',.bool th',.int .i64 tm',.int .i64 tx',.bool mh',.int .i64 mm',.int .i64 mx',.slice og' ng' cg',.slice oe' ne' ce',.slice ol' nl' cl',.slice oc' nc' cc',.slice od' nd' cd'] 33)).heap.size=w.heap.size + 2:=by simp
 obtain ⟨w0,hw0⟩:∃ w0,((w.alloc (.cells #[.slice ot nt ct,.slice oi ni ci,.slice of nf cf,.bool th,.int .i64 tm,.int .i64 tx,.bool mh,.int .i64 mm,.int .i64 mx,.slice og ng cg,.slice oe ne ce,.slice ol nl cl,.slice oc nc cc,.slice od nd cd] 33)).alloc (.cells #[.slice ot' nt' ct',.slice oi' ni' ci',.slice of' nf' cf',.bool th',.int .i64 tm',.int .i64 tx',.bool mh',.int .i64 mm',.int .i64 mx',.slice og' ng' cg',.slice oe' ne' ce',.slice ol' nl' cl',.slice oc' nc' cc',.slice od' nd' cd'] 33))=w0:=⟨_,rfl⟩
 rw [hw0] at hb0 hx0 hy0 hz0
 have HB0:=hid hb0
 have HX0:=hid hx0
 have HY0:=hid hy0
 have HZ0:=hid hz0
 have HW0:=hid hw0
 clear hb0 hx0 hy0 hz0 hw0
 have HH:=hid h
 have HH':=hid h'
 clear h h' hr
 go_enter Tryz.func14,Tryz.ntmps14
 rcases Nat.decEq nt nt' with hne | heq
 ·
  have e1:((nt:Int) != (nt':Int))=true:=by simp;omega
  have hq:=hid (zH (e:=qHx) (show ¬ T.length=T'.length by rw [HLt.out,HLt'.out];exact hne));go_wp2_with fail;exact bodyPost_ret (v:=.bool false) (by simp [results,Tryz.results14,go_sem]) rfl ⟨rb (by rw [<- HR.out];simp [qAr,hq.out]),HB00.out⟩
 subst heq
 rcases Nat.decEq ni ni' with hne | heq
 ·
  have e1:((ni:Int) != (ni':Int))=true:=by simp;omega
  have hq:=hid (zH (e:=qEx) (show ¬ I.length=I'.length by rw [HLi.out,HLi'.out];exact hne));go_wp2_with fail;exact bodyPost_ret (v:=.bool false) (by simp [results,Tryz.results14,go_sem]) rfl ⟨rb (by rw [<- HR.out];simp [qAr,hq.out]),HB00.out⟩
 subst heq
 obtain ⟨pf,hpf⟩:∃ p,(F == F')=p:=⟨_,rfl⟩
 have HPF:=hid hpf
 clear hpf
 have hc:=HX0.out
 have hd:=HY0.out
 rw [<- HW0.out] at hc hd
 have c0:=hc.cell 0 _ rfl
 have d0:=hd.cell 0 _ rfl
 have c1:=hc.cell 1 _ rfl
 have d1:=hd.cell 1 _ rfl
 have c2:=hc.cell 2 _ rfl
 have d2:=hd.cell 2 _ rfl
 have c3:=hc.cell 3 _ rfl
 have d3:=hd.cell 3 _ rfl
 have c4:=hc.cell 4 _ rfl
 have d4:=hd.cell 4 _ rfl
 have c5:=hc.cell 5 _ rfl
 have d5:=hd.cell 5 _ rfl
 have c6:=hc.cell 6 _ rfl
 have d6:=hd.cell 6 _ rfl
 have c7:=hc.cell 7 _ rfl
 have d7:=hd.cell 7 _ rfl
 have c8:=hc.cell 8 _ rfl
 have d8:=hd.cell 8 _ rfl
 have c9:=hc.cell 9 _ rfl
 have d9:=hd.cell 9 _ rfl
 have c10:=hc.cell 10 _ rfl
 have d10:=hd.cell 10 _ rfl
 have c11:=hc.cell 11 _ rfl
 have d11:=hd.cell 11 _ rfl
 have c12:=hc.cell 12 _ rfl
 have d12:=hd.cell 12 _ rfl
 have c13:=hc.cell 13 _ rfl
 have d13:=hd.cell 13 _ rfl
 clear hc hd
 go_wp2_with fail
 rw [HW0.out]
 refine (zE of of' nf nf' cf cf' F F' pf HPF.out _ (HQf.out.below HB0.out) (HQf'.out.below HB0.out)).mono ?_
 rintro e w1 ⟨rfl,hb⟩
 have HB:Hid (Below w0.heap.size w0 w1):=hid hb
 have HX:=hid (HX0.out.below (qW5 _) hb)
 have HY:=hid (HY0.out.below (qW5 _) hb)
 clear hb
 replace c0:=HX.out.cell 0 _ rfl
 replace d0:=HY.out.cell 0 _ rfl
 replace c1:=HX.out.cell 1 _ rfl
 replace d1:=HY.out.cell 1 _ rfl
 replace c2:=HX.out.cell 2 _ rfl
 replace d2:=HY.out.cell 2 _ rfl
 replace c3:=HX.out.cell 3 _ rfl
 replace d3:=HY.out.cell 3 _ rfl
 replace c4:=HX.out.cell 4 _ rfl
 replace d4:=HY.out.cell 4 _ rfl
 replace c5:=HX.out.cell 5 _ rfl
 replace d5:=HY.out.cell 5 _ rfl
 replace c6:=HX.out.cell 6 _ rfl
 replace d6:=HY.out.cell 6 _ rfl
 replace c7:=HX.out.cell 7 _ rfl
 replace d7:=HY.out.cell 7 _ rfl
 replace c8:=HX.out.cell 8 _ rfl
 replace d8:=HY.out.cell 8 _ rfl
 replace c9:=HX.out.cell 9 _ rfl
 replace d9:=HY.out.cell 9 _ rfl
 replace c10:=HX.out.cell 10 _ rfl
 replace d10:=HY.out.cell 10 _ rfl
 replace c11:=HX.out.cell 11 _ rfl
 replace d11:=HY.out.cell 11 _ rfl
 replace c12:=HX.out.cell 12 _ rfl
 replace d12:=HY.out.cell 12 _ rfl
 replace c13:=HX.out.cell 13 _ rfl
 replace d13:=HY.out.cell 13 _ rfl
 cases pf with
 | false =>
   go_wp2_with fail;exact bodyPost_ret (v:=.bool false) (by simp [results,Tryz.results14,go_sem]) rfl ⟨rb (by rw [<- HR.out];simp [qAr,HPF.out]),HB0.out.trans (Below.mono HB.out (show w.heap.size <= w0.heap.size by rw [HZ0.out];omega))⟩
 | true =>
   rcases Nat.decEq ng ng' with hne | heq
   ·
    have e1:((ng:Int) != (ng':Int))=true:=by simp;omega
    have hq:=hid (zH (e:=qEy) (show ¬ G.length=G'.length by rw [HLg.out,HLg'.out];exact hne));go_wp2_with fail;exact bodyPost_ret (v:=.bool false) (by simp [results,Tryz.results14,go_sem]) rfl ⟨rb (by rw [<- HR.out];simp [qAr,hq.out]),HB0.out.trans (Below.mono HB.out (show w.heap.size <= w0.heap.size by rw [HZ0.out];omega))⟩
   subst heq;rcases Nat.decEq ne ne' with hne | heq
   ·
    have e1:((ne:Int) != (ne':Int))=true:=by simp;omega
    have hq:=hid (zH (e:=qFw) (show ¬ E.length=E'.length by rw [HLe.out,HLe'.out];exact hne));go_wp2_with fail;exact bodyPost_ret (v:=.bool false) (by simp [results,Tryz.results14,go_sem]) rfl ⟨rb (by rw [<- HR.out];simp [qAr,hq.out]),HB0.out.trans (Below.mono HB.out (show w.heap.size <= w0.heap.size by rw [HZ0.out];omega))⟩
   subst heq
   obtain ⟨pl,hpl⟩:∃ p,qL9 ⟨th,tm,tx⟩ ⟨th',tm',tx'⟩=p:=⟨_,rfl⟩
   go_wp2_with fail;refine (qDd ⟨th,tm,tx⟩ ⟨th',tm',tx'⟩ _).mono ?_;rintro e w2 ⟨rfl,hb⟩;rw [hpl];have HPLtable:=hid hpl;replace HX:=hid (HX.out.below (qW5 _) hb);replace HY:=hid (HY.out.below (qW5 _) hb);replace HB:=hid (HB.out.trans (hb.mono HB.out.size));clear hb hpl;replace c0:=HX.out.cell 0 _ rfl;replace d0:=HY.out.cell 0 _ rfl;replace c1:=HX.out.cell 1 _ rfl;replace d1:=HY.out.cell 1 _ rfl;replace c2:=HX.out.cell 2 _ rfl;replace d2:=HY.out.cell 2 _ rfl;replace c3:=HX.out.cell 3 _ rfl;replace d3:=HY.out.cell 3 _ rfl;replace c4:=HX.out.cell 4 _ rfl;replace d4:=HY.out.cell 4 _ rfl;replace c5:=HX.out.cell 5 _ rfl;replace d5:=HY.out.cell 5 _ rfl;replace c6:=HX.out.cell 6 _ rfl;replace d6:=HY.out.cell 6 _ rfl;replace c7:=HX.out.cell 7 _ rfl;replace d7:=HY.out.cell 7 _ rfl;replace c8:=HX.out.cell 8 _ rfl;replace d8:=HY.out.cell 8 _ rfl;replace c9:=HX.out.cell 9 _ rfl;replace d9:=HY.out.cell 9 _ rfl;replace c10:=HX.out.cell 10 _ rfl;replace d10:=HY.out.cell 10 _ rfl;replace c11:=HX.out.cell 11 _ rfl;replace d11:=HY.out.cell 11 _ rfl;replace c12:=HX.out.cell 12 _ rfl;replace d12:=HY.out.cell 12 _ rfl;replace c13:=HX.out.cell 13 _ rfl;replace d13:=HY.out.cell 13 _ rfl
   cases pl with
   | false =>
     go_wp2_with fail;exact bodyPost_ret (v:=.bool false) (by simp [results,Tryz.results14,go_sem]) rfl ⟨rb (by rw [<- HR.out];simp [qAr,HPLtable.out]),HB0.out.trans (Below.mono HB.out (show w.heap.size <= w0.heap.size by rw [HZ0.out];omega))⟩
   | true =>
     obtain ⟨pl,hpl⟩:∃ p,qL9 ⟨mh,mm,mx⟩ ⟨mh',mm',mx'⟩=p:=⟨_,rfl⟩
     go_wp2_with fail;refine (qDd ⟨mh,mm,mx⟩ ⟨mh',mm',mx'⟩ _).mono ?_;rintro e w2 ⟨rfl,hb⟩;rw [hpl];have HPLmem:=hid hpl;replace HX:=hid (HX.out.below (qW5 _) hb);replace HY:=hid (HY.out.below (qW5 _) hb);replace HB:=hid (HB.out.trans (hb.mono HB.out.size));clear hb hpl;replace c0:=HX.out.cell 0 _ rfl;replace d0:=HY.out.cell 0 _ rfl;replace c1:=HX.out.cell 1 _ rfl;replace d1:=HY.out.cell 1 _ rfl;replace c2:=HX.out.cell 2 _ rfl;replace d2:=HY.out.cell 2 _ rfl;replace c3:=HX.out.cell 3 _ rfl;replace d3:=HY.out.cell 3 _ rfl;replace c4:=HX.out.cell 4 _ rfl;replace d4:=HY.out.cell 4 _ rfl;replace c5:=HX.out.cell 5 _ rfl;replace d5:=HY.out.cell 5 _ rfl;replace c6:=HX.out.cell 6 _ rfl;replace d6:=HY.out.cell 6 _ rfl;replace c7:=HX.out.cell 7 _ rfl;replace d7:=HY.out.cell 7 _ rfl;replace c8:=HX.out.cell 8 _ rfl;replace d8:=HY.out.cell 8 _ rfl;replace c9:=HX.out.cell 9 _ rfl;replace d9:=HY.out.cell 9 _ rfl;replace c10:=HX.out.cell 10 _ rfl;replace d10:=HY.out.cell 10 _ rfl;replace c11:=HX.out.cell 11 _ rfl;replace d11:=HY.out.cell 11 _ rfl;replace c12:=HX.out.cell 12 _ rfl;replace d12:=HY.out.cell 12 _ rfl;replace c13:=HX.out.cell 13 _ rfl;replace d13:=HY.out.cell 13 _ rfl
     cases pl with
     | false =>
       go_wp2_with fail;exact bodyPost_ret (v:=.bool false) (by simp [results,Tryz.results14,go_sem]) rfl ⟨rb (by rw [<- HR.out];simp [qAr,HPLmem.out]),HB0.out.trans (Below.mono HB.out (show w.heap.size <= w0.heap.size by rw [HZ0.out];omega))⟩
     | true =>
       clear c0 d0 c1 d1 c2 d2 c3 d3 c4 d4 c5 d5 c6 d6 c7 d7 c8 d8 c9 d9 c10 d10 c11 d11 c12 d12 c13 d13;go_wp2_with fail;go_loopw [5] (fun i wr=>∃ k:Nat,k <= nt /\ i=.int .i64 k /\ Hid (((T.zip T').take k).all (fun q=>qHx q.1 q.2)=true) /\ Below w0.heap.size w0 wr) (fun i _=>nt - (intOf i).toNat)
       case atStart=>exact ⟨0,qXf _,rfl,by simp [Hid],HB.out⟩
       case round =>
        obtain ⟨k,hkn,rfl,HA,hb⟩:=hrel;clear HB;have hsz:=hb.size;rw [HZ0.out] at hsz;have hp1:w.heap.size < wr.heap.size:=by omega
        have hp2:w.heap.size + 1 < wr.heap.size:=by omega
        have HB:=hid hb;clear hb;have HX:=hid (HX0.out.keep (show w.heap.size < w0.heap.size by rw [HZ0.out];omega) HB.out);have HY:=hid (HY0.out.keep (show w.heap.size + 1 < w0.heap.size by rw [HZ0.out];omega) HB.out);have hcx:=HX.out.cell 0 _ rfl;have hcy:=HY.out.cell 0 _ rfl;by_cases hk:k < nt
        ·
         obtain ⟨x,hx⟩:∃ x,T[k]?=some x:=⟨T[k]'(by rw [HLt.out];omega),qW6 (by rw [HLt.out];omega)⟩
         obtain ⟨z,hz⟩:∃ y,T'[k]?=some y:=⟨T'[k]'(by rw [HLt'.out];omega),qW6 (by rw [HLt'.out];omega)⟩
         have hzp:(T.zip T')[k]?=some (x,z):=by rw [List.getElem?_zip_eq_some];exact ⟨hx,hz⟩
         have hcut:=hid (qX (fun q:MTy × MTy=>qHx q.1 q.2) (T.zip T') k _ hzp HA.out);obtain ⟨b,off,cs,rfl,hcl,hRR,hc⟩:=RdG.elem (HQt.out.below (HB0.out.trans (HB.out.mono (show w.heap.size <= w0.heap.size by rw [HZ0.out];omega)))) hx;obtain ⟨b',off',cs',rfl,hcl',hRR',hc'⟩:=RdG.elem (HQt'.out.below (HB0.out.trans (HB.out.mono (show w.heap.size <= w0.heap.size by rw [HZ0.out];omega)))) hz;obtain ⟨y1,y2⟩:=x;obtain ⟨a1,m1,k1,a2,m2,k2,rfl,hr1,hr2⟩:=hRR.now;obtain ⟨z1,z2⟩:=z;obtain ⟨d1,j1,i1,d2,j2,i2,rfl,gr1,gr2⟩:=hRR'.now;have HR1:=hid hr1;have HR2:=hid hr2;have GR1:=hid gr1;have GR2:=hid gr2;have fc0:=hc 0 _ rfl;rw [qXd] at fc0;have fc1:=hc 1 _ rfl;have gc0:=hc' 0 _ rfl;rw [qXd] at gc0;have gc1:=hc' 1 _ rfl;have hlb:=qXc _ _ fc0;have hlb':=qXc _ _ gc0;simp only at fc0 fc1 gc0 gc1 hlb hlb';clear hc hRR hx hcl hc' hRR' hz hcl' hzp hr1 hr2 gr1 gr2
         obtain ⟨p1,hp1⟩:∃ p,(y1 == z1)=p:=⟨_,rfl⟩
         obtain ⟨p2,hp2⟩:∃ p,(y2 == z2)=p:=⟨_,rfl⟩
         have HP1:=hid hp1;have HP2:=hid hp2;have hev:=hid (show qHx ⟨y1,y2⟩ ⟨z1,z2⟩=(p1 && p2) by show ((y1 == z1) && (y2 == z2))=_;rw [hp1,hp2]);clear hp1 hp2
         cases p1 with
         | false =>
           go_wp2_with fail;refine qK (by kernel_rfl) (by kernel_rfl) ?_;have hbc:=fun x=>@Bw.cell wr x
           repeat (go_big_quiet_step (first
            | (go_at_call 44;(with_reducible show Calls _ _ #[.slice a1 m1 k1,.slice d1 j1 i1] _ _);exact Calls.bw (zE a1 d1 m1 j1 k1 i1 y1 z1 _ HP1.out _ (HR1.out.below (Bw.h _)) (GR1.out.below (Bw.h _))))))
           refine wpQuiet_nil ?_;rintro _ ⟨x,rfl⟩;have HB2:=hid (HB.out.trans (x.h.mono HB.out.size));clear hbc hcx hcy fc0 fc1 gc0 gc1 hlb hlb';generalize x.w=w5 at HB2 ⊢;have hq:=hid ((jC (e:=qHx) (show T.length=T'.length by rw [HLt.out,HLt'.out])).trans (hcut.out.1 (hev.out)));clear hcut HA;go_wp2_with fail;exact bodyPost_ret (v:=.bool false) (by simp [results,Tryz.results14,go_sem]) rfl ⟨rb (by rw [<- HR.out];simp [qAr,hq.out]),HB0.out.trans (Below.mono (HB2.out) (show w.heap.size <= w0.heap.size by rw [HZ0.out];omega))⟩
         | true =>
           cases p2 with
           | false =>
             go_wp2_with fail;refine qK (by kernel_rfl) (by kernel_rfl) ?_;have hbc:=fun x=>@Bw.cell wr x
             repeat (go_big_quiet_step (first
              | (go_at_call 44;(with_reducible show Calls _ _ #[.slice a1 m1 k1,.slice d1 j1 i1] _ _);exact Calls.bw (zE a1 d1 m1 j1 k1 i1 y1 z1 _ HP1.out _ (HR1.out.below (Bw.h _)) (GR1.out.below (Bw.h _))))
              | (go_at_call 44;(with_reducible show Calls _ _ #[.slice a2 m2 k2,.slice d2 j2 i2] _ _);exact Calls.bw (zE a2 d2 m2 j2 k2 i2 y2 z2 _ HP2.out _ (HR2.out.below (Bw.h _)) (GR2.out.below (Bw.h _))))))
             refine wpQuiet_nil ?_;rintro _ ⟨x,rfl⟩;have HB2:=hid (HB.out.trans (x.h.mono HB.out.size));clear hbc hcx hcy fc0 fc1 gc0 gc1 hlb hlb';generalize x.w=w5 at HB2 ⊢;have hq:=hid ((jC (e:=qHx) (show T.length=T'.length by rw [HLt.out,HLt'.out])).trans (hcut.out.1 (hev.out)));clear hcut HA;go_wp2_with fail;exact bodyPost_ret (v:=.bool false) (by simp [results,Tryz.results14,go_sem]) rfl ⟨rb (by rw [<- HR.out];simp [qAr,hq.out]),HB0.out.trans (Below.mono (HB2.out) (show w.heap.size <= w0.heap.size by rw [HZ0.out];omega))⟩
           | true =>
             go_wp2_with fail;refine qK (by kernel_rfl) (by kernel_rfl) ?_;have hbc:=fun x=>@Bw.cell wr x
             repeat (go_big_quiet_step (first
              | (go_at_call 44;(with_reducible show Calls _ _ #[.slice a1 m1 k1,.slice d1 j1 i1] _ _);exact Calls.bw (zE a1 d1 m1 j1 k1 i1 y1 z1 _ HP1.out _ (HR1.out.below (Bw.h _)) (GR1.out.below (Bw.h _))))
              | (go_at_call 44;(with_reducible show Calls _ _ #[.slice a2 m2 k2,.slice d2 j2 i2] _ _);exact Calls.bw (zE a2 d2 m2 j2 k2 i2 y2 z2 _ HP2.out _ (HR2.out.below (Bw.h _)) (GR2.out.below (Bw.h _))))))
             refine wpQuiet_nil ?_;rintro _ ⟨x,rfl⟩;have HB2:=hid (HB.out.trans (x.h.mono HB.out.size));clear hbc hcx hcy fc0 fc1 gc0 gc1 hlb hlb';generalize x.w=w5 at HB2 ⊢;have HA2:=hid (hcut.out.2 (hev.out));clear hcut HA;go_wp2_with fail;go_roundw
             case rel=>exact ⟨k + 1,by omega,by go_num,HA2.out,HB2.out⟩
             case measure=>simp [intOf];omega
        ·
         have e0:k=nt:=by omega
         subst e0;have ht:(T.zip T').take k=T.zip T':=qW9 (by rw [List.length_zip,HLt.out,HLt'.out];simp);have ha:=HA.out;rw [ht] at ha;have HEt:=hid ((jC (e:=qHx) (show T.length=T'.length by rw [HLt.out,HLt'.out])).trans ha);clear ht ha HA hk hkn hsz
         obtain ⟨wo,rfl⟩:∃ wo:World,wo=wr:=⟨_,rfl⟩
         go_wp2_with fail;clear hcx hcy hp1 hp2;go_loopw [6] (fun i wr=>∃ k:Nat,k <= ni /\ i=.int .i64 k /\ Hid (((I.zip I').take k).all (fun q=>qEx q.1 q.2)=true) /\ Below w0.heap.size w0 wr) (fun i _=>ni - (intOf i).toNat)
         case atStart=>exact ⟨0,qXf _,rfl,by simp [Hid],HB.out⟩
         case round =>
          obtain ⟨k,hkn,rfl,HA,hb⟩:=hrel;clear HB;have hsz:=hb.size;rw [HZ0.out] at hsz;have hp1:w.heap.size < wr.heap.size:=by omega
          have hp2:w.heap.size + 1 < wr.heap.size:=by omega
          have HB:=hid hb;clear hb;have HX:=hid (HX0.out.keep (show w.heap.size < w0.heap.size by rw [HZ0.out];omega) HB.out);have HY:=hid (HY0.out.keep (show w.heap.size + 1 < w0.heap.size by rw [HZ0.out];omega) HB.out);have hcx:=HX.out.cell 1 _ rfl;have hcy:=HY.out.cell 1 _ rfl;by_cases hk:k < ni
          ·
           obtain ⟨x,hx⟩:∃ x,I[k]?=some x:=⟨I[k]'(by rw [HLi.out];omega),qW6 (by rw [HLi.out];omega)⟩
           obtain ⟨z,hz⟩:∃ y,I'[k]?=some y:=⟨I'[k]'(by rw [HLi'.out];omega),qW6 (by rw [HLi'.out];omega)⟩
           have hzp:(I.zip I')[k]?=some (x,z):=by rw [List.getElem?_zip_eq_some];exact ⟨hx,hz⟩
           have hcut:=hid (qX (fun q:MIm × MIm=>qEx q.1 q.2) (I.zip I') k _ hzp HA.out);obtain ⟨b,off,cs,rfl,hcl,hRR,hc⟩:=RdG.elem (HQi.out.below (HB0.out.trans (HB.out.mono (show w.heap.size <= w0.heap.size by rw [HZ0.out];omega)))) hx;obtain ⟨b',off',cs',rfl,hcl',hRR',hc'⟩:=RdG.elem (HQi'.out.below (HB0.out.trans (HB.out.mono (show w.heap.size <= w0.heap.size by rw [HZ0.out];omega)))) hz;obtain ⟨y1,y2,y3⟩:=x;obtain rfl:=hRR.now;obtain ⟨z1,z2,z3⟩:=z;obtain rfl:=hRR'.now;have fc0:=hc 0 _ rfl;rw [qXd] at fc0;have fc1:=hc 1 _ rfl;have fc2:=hc 2 _ rfl;have gc0:=hc' 0 _ rfl;rw [qXd] at gc0;have gc1:=hc' 1 _ rfl;have gc2:=hc' 2 _ rfl;have hlb:=qXc _ _ fc0;have hlb':=qXc _ _ gc0;simp only at fc0 fc1 gc0 gc1 hlb hlb';clear hc hRR hx hcl hc' hRR' hz hcl' hzp;have hev:=hid (show qEx ⟨y1,y2,y3⟩ ⟨z1,z2,z3⟩=(decide (y1=z1) && (decide (y2=z2) && y3 == z3)) from rfl);go_wp2_with fail;go_region
           all_goals
            clear hcx hcy fc0 fc1 fc2 gc0 gc1 gc2 hlb hlb'
            by_cases ss:y1=z1
            ·
             subst ss;by_cases ss:y2=z2
             ·
              subst ss
              cases q0:y3 == z3 with
              | false =>
                have nn0:(y3 != z3)=true:=by simp only [bne,q0];rfl
                have Q0:=hid q0;have hq:=hid ((jC (e:=qEx) (show I.length=I'.length by rw [HLi.out,HLi'.out])).trans (hcut.out.1 (by rw [hev.out,Q0.out];simp)));clear hcut HA;go_wp2_with fail;exact bodyPost_ret (v:=.bool false) (by simp [results,Tryz.results14,go_sem]) rfl ⟨rb (by rw [<- HR.out];simp [qAr,hq.out]),HB0.out.trans (Below.mono (HB.out.trans (((Bl.alloc (Bl.alloc (Bl.refl wr) _) _).drew).mono HB.out.size)) (show w.heap.size <= w0.heap.size by rw [HZ0.out];omega))⟩
              | true =>
                have nn0:(y3 != z3)=false:=by simp only [bne,q0];rfl
                have Q0:=hid q0;have HA2:=hid (hcut.out.2 (by rw [hev.out,Q0.out];simp));clear hcut HA;go_wp2_with fail;go_roundw
                case rel=>exact ⟨k + 1,by omega,by go_num,HA2.out,HB.out.trans (((Bl.alloc (Bl.alloc (Bl.refl wr) _) _).drew).mono HB.out.size)⟩
                case measure=>simp [intOf];omega
             ·
              have sn:¬ y2.toList=z2.toList:=fun h=>ss (qEd h)
              have sb:(y2.toList == z2.toList)=false:=by simp [sn]
              have SS:=hid ss;clear ss;have hq:=hid ((jC (e:=qEx) (show I.length=I'.length by rw [HLi.out,HLi'.out])).trans (hcut.out.1 (by rw [hev.out];simp [SS.out])));clear hcut HA;go_wp2_with fail;exact bodyPost_ret (v:=.bool false) (by simp [results,Tryz.results14,go_sem]) rfl ⟨rb (by rw [<- HR.out];simp [qAr,hq.out]),HB0.out.trans (Below.mono (HB.out.trans (((Bl.alloc (Bl.alloc (Bl.refl wr) _) _).drew).mono HB.out.size)) (show w.heap.size <= w0.heap.size by rw [HZ0.out];omega))⟩
            ·
             have sn:¬ y1.toList=z1.toList:=fun h=>ss (qEd h)
             have sb:(y1.toList == z1.toList)=false:=by simp [sn]
             have SS:=hid ss;clear ss;have hq:=hid ((jC (e:=qEx) (show I.length=I'.length by rw [HLi.out,HLi'.out])).trans (hcut.out.1 (by rw [hev.out];simp [SS.out])));clear hcut HA;go_wp2_with fail;exact bodyPost_ret (v:=.bool false) (by simp [results,Tryz.results14,go_sem]) rfl ⟨rb (by rw [<- HR.out];simp [qAr,hq.out]),HB0.out.trans (Below.mono (HB.out.trans (((Bl.alloc (Bl.alloc (Bl.refl wr) _) _).drew).mono HB.out.size)) (show w.heap.size <= w0.heap.size by rw [HZ0.out];omega))⟩
          ·
           have e0:k=ni:=by omega
           subst e0;have ht:(I.zip I').take k=I.zip I':=qW9 (by rw [List.length_zip,HLi.out,HLi'.out];simp);have ha:=HA.out;rw [ht] at ha;have HEi:=hid ((jC (e:=qEx) (show I.length=I'.length by rw [HLi.out,HLi'.out])).trans ha);clear ht ha HA hk hkn hsz
           obtain ⟨wo,rfl⟩:∃ wo:World,wo=wr:=⟨_,rfl⟩
           go_wp2_with fail;clear hcx hcy hp1 hp2;go_loopw [9] (fun i wr=>∃ k:Nat,k <= ng /\ i=.int .i64 k /\ Hid (((G.zip G').take k).all (fun q=>qEy q.1 q.2)=true) /\ Below w0.heap.size w0 wr) (fun i _=>ng - (intOf i).toNat)
           case atStart=>exact ⟨0,qXf _,rfl,by simp [Hid],HB.out⟩
           case round =>
            obtain ⟨k,hkn,rfl,HA,hb⟩:=hrel;clear HB;have hsz:=hb.size;rw [HZ0.out] at hsz;have hp1:w.heap.size < wr.heap.size:=by omega
            have hp2:w.heap.size + 1 < wr.heap.size:=by omega
            have HB:=hid hb;clear hb;have HX:=hid (HX0.out.keep (show w.heap.size < w0.heap.size by rw [HZ0.out];omega) HB.out);have HY:=hid (HY0.out.keep (show w.heap.size + 1 < w0.heap.size by rw [HZ0.out];omega) HB.out);have hcx:=HX.out.cell 9 _ rfl;have hcy:=HY.out.cell 9 _ rfl;by_cases hk:k < ng
            ·
             obtain ⟨x,hx⟩:∃ x,G[k]?=some x:=⟨G[k]'(by rw [HLg.out];omega),qW6 (by rw [HLg.out];omega)⟩
             obtain ⟨z,hz⟩:∃ y,G'[k]?=some y:=⟨G'[k]'(by rw [HLg'.out];omega),qW6 (by rw [HLg'.out];omega)⟩
             have hzp:(G.zip G')[k]?=some (x,z):=by rw [List.getElem?_zip_eq_some];exact ⟨hx,hz⟩
             have hcut:=hid (qX (fun q:MGl × MGl=>qEy q.1 q.2) (G.zip G') k _ hzp HA.out);obtain ⟨b,off,cs,rfl,hcl,hRR,hc⟩:=RdG.elem (HQg.out.below (HB0.out.trans (HB.out.mono (show w.heap.size <= w0.heap.size by rw [HZ0.out];omega)))) hx;obtain ⟨b',off',cs',rfl,hcl',hRR',hc'⟩:=RdG.elem (HQg'.out.below (HB0.out.trans (HB.out.mono (show w.heap.size <= w0.heap.size by rw [HZ0.out];omega)))) hz;obtain ⟨y1,y2,y3⟩:=x;obtain ⟨rfl,_,_⟩:=hRR.now;obtain ⟨z1,z2,z3⟩:=z;obtain ⟨rfl,_,_⟩:=hRR'.now;have fc0:=hc 0 _ rfl;rw [qXd] at fc0;have fc1:=hc 1 _ rfl;have fc2:=hc 2 _ rfl;have gc0:=hc' 0 _ rfl;rw [qXd] at gc0;have gc1:=hc' 1 _ rfl;have gc2:=hc' 2 _ rfl;have hlb:=qXc _ _ fc0;have hlb':=qXc _ _ gc0;simp only at fc0 fc1 gc0 gc1 hlb hlb';clear hc hRR hx hcl hc' hRR' hz hcl' hzp;have hev:=hid (show qEy ⟨y1,y2,y3⟩ ⟨z1,z2,z3⟩=(y1 == z1 && (y2 == z2 && y3 == z3)) from rfl);go_wp2_with fail;go_region
             all_goals
              clear hcx hcy fc0 fc1 fc2 gc0 gc1 gc2 hlb hlb'
              cases q0:y1 == z1 with
              | false =>
                have nn0:(y1 != z1)=true:=by simp only [bne,q0];rfl
                have Q0:=hid q0;have hq:=hid ((jC (e:=qEy) (show G.length=G'.length by rw [HLg.out,HLg'.out])).trans (hcut.out.1 (by rw [hev.out,Q0.out];rfl)));clear hcut HA;go_wp2_with fail;exact bodyPost_ret (v:=.bool false) (by simp [results,Tryz.results14,go_sem]) rfl ⟨rb (by rw [<- HR.out];simp [qAr,hq.out]),HB0.out.trans (Below.mono (HB.out.trans (((Bl.alloc (Bl.alloc (Bl.refl wr) _) _).drew).mono HB.out.size)) (show w.heap.size <= w0.heap.size by rw [HZ0.out];omega))⟩
              | true =>
                have nn0:(y1 != z1)=false:=by simp only [bne,q0];rfl
                have Q0:=hid q0
                cases q1:y2 == z2 with
                | false =>
                  have nn1:(y2 != z2)=true:=by simp only [bne,q1];rfl
                  have Q1:=hid q1;have hq:=hid ((jC (e:=qEy) (show G.length=G'.length by rw [HLg.out,HLg'.out])).trans (hcut.out.1 (by rw [hev.out,Q0.out,Q1.out];rfl)));clear hcut HA;go_wp2_with fail;exact bodyPost_ret (v:=.bool false) (by simp [results,Tryz.results14,go_sem]) rfl ⟨rb (by rw [<- HR.out];simp [qAr,hq.out]),HB0.out.trans (Below.mono (HB.out.trans (((Bl.alloc (Bl.alloc (Bl.refl wr) _) _).drew).mono HB.out.size)) (show w.heap.size <= w0.heap.size by rw [HZ0.out];omega))⟩
                | true =>
                  have nn1:(y2 != z2)=false:=by simp only [bne,q1];rfl
                  have Q1:=hid q1
                  cases q2:y3 == z3 with
                  | false =>
                    have nn2:(y3 != z3)=true:=by simp only [bne,q2];rfl
                    have Q2:=hid q2;have hq:=hid ((jC (e:=qEy) (show G.length=G'.length by rw [HLg.out,HLg'.out])).trans (hcut.out.1 (by rw [hev.out,Q0.out,Q1.out,Q2.out];rfl)));clear hcut HA;go_wp2_with fail;exact bodyPost_ret (v:=.bool false) (by simp [results,Tryz.results14,go_sem]) rfl ⟨rb (by rw [<- HR.out];simp [qAr,hq.out]),HB0.out.trans (Below.mono (HB.out.trans (((Bl.alloc (Bl.alloc (Bl.refl wr) _) _).drew).mono HB.out.size)) (show w.heap.size <= w0.heap.size by rw [HZ0.out];omega))⟩
                  | true =>
                    have nn2:(y3 != z3)=false:=by simp only [bne,q2];rfl
                    have Q2:=hid q2;have HA2:=hid (hcut.out.2 (by rw [hev.out,Q0.out,Q1.out,Q2.out];rfl));clear hcut HA;go_wp2_with fail;go_roundw
                    case rel=>exact ⟨k + 1,by omega,by go_num,HA2.out,HB.out.trans (((Bl.alloc (Bl.alloc (Bl.refl wr) _) _).drew).mono HB.out.size)⟩
                    case measure=>simp [intOf];omega
            ·
             have e0:k=ng:=by omega
             subst e0;have ht:(G.zip G').take k=G.zip G':=qW9 (by rw [List.length_zip,HLg.out,HLg'.out];simp);have ha:=HA.out;rw [ht] at ha;have HEg:=hid ((jC (e:=qEy) (show G.length=G'.length by rw [HLg.out,HLg'.out])).trans ha);clear ht ha HA hk hkn hsz
             obtain ⟨wo,rfl⟩:∃ wo:World,wo=wr:=⟨_,rfl⟩
             go_wp2_with fail;clear hcx hcy hp1 hp2;go_loopw [12] (fun i wr=>∃ k:Nat,k <= ne /\ i=.int .i64 k /\ Hid (((E.zip E').take k).all (fun q=>qFw q.1 q.2)=true) /\ Below w0.heap.size w0 wr) (fun i _=>ne - (intOf i).toNat)
             case atStart=>exact ⟨0,qXf _,rfl,by simp [Hid],HB.out⟩
             case round =>
              obtain ⟨k,hkn,rfl,HA,hb⟩:=hrel;clear HB;have hsz:=hb.size;rw [HZ0.out] at hsz;have hp1:w.heap.size < wr.heap.size:=by omega
              have hp2:w.heap.size + 1 < wr.heap.size:=by omega
              have HB:=hid hb;clear hb;have HX:=hid (HX0.out.keep (show w.heap.size < w0.heap.size by rw [HZ0.out];omega) HB.out);have HY:=hid (HY0.out.keep (show w.heap.size + 1 < w0.heap.size by rw [HZ0.out];omega) HB.out);have hcx:=HX.out.cell 10 _ rfl;have hcy:=HY.out.cell 10 _ rfl;by_cases hk:k < ne
              ·
               obtain ⟨x,hx⟩:∃ x,E[k]?=some x:=⟨E[k]'(by rw [HLe.out];omega),qW6 (by rw [HLe.out];omega)⟩
               obtain ⟨z,hz⟩:∃ y,E'[k]?=some y:=⟨E'[k]'(by rw [HLe'.out];omega),qW6 (by rw [HLe'.out];omega)⟩
               have hzp:(E.zip E')[k]?=some (x,z):=by rw [List.getElem?_zip_eq_some];exact ⟨hx,hz⟩
               have hcut:=hid (qX (fun q:MEx × MEx=>qFw q.1 q.2) (E.zip E') k _ hzp HA.out);obtain ⟨b,off,cs,rfl,hcl,hRR,hc⟩:=RdG.elem (HQe.out.below (HB0.out.trans (HB.out.mono (show w.heap.size <= w0.heap.size by rw [HZ0.out];omega)))) hx;obtain ⟨b',off',cs',rfl,hcl',hRR',hc'⟩:=RdG.elem (HQe'.out.below (HB0.out.trans (HB.out.mono (show w.heap.size <= w0.heap.size by rw [HZ0.out];omega)))) hz;obtain ⟨y1,y2⟩:=x;obtain rfl:=hRR.now;obtain ⟨z1,z2⟩:=z;obtain rfl:=hRR'.now;have fc0:=hc 0 _ rfl;rw [qXd] at fc0;have fc1:=hc 1 _ rfl;have gc0:=hc' 0 _ rfl;rw [qXd] at gc0;have gc1:=hc' 1 _ rfl;have hlb:=qXc _ _ fc0;have hlb':=qXc _ _ gc0;simp only at fc0 fc1 gc0 gc1 hlb hlb';clear hc hRR hx hcl hc' hRR' hz hcl' hzp;have hev:=hid (show qFw ⟨y1,y2⟩ ⟨z1,z2⟩=(decide (y1=z1) && y2 == z2) from rfl);by_cases s1:y1=z1
               ·
                subst s1
                cases t2:y2 == z2 with
                | false =>
                  have nn:(y2 != z2)=true:=by simp only [bne,t2];rfl
                  have T2:=hid t2;go_wp2_with fail;refine qK (by kernel_rfl) (by kernel_rfl) ?_;have hbc:=fun x=>@Bw.cell wr x
                  repeat (go_big_quiet_step (fail))
                  refine wpQuiet_nil ?_;rintro _ ⟨x,rfl⟩;have HB2:=hid (HB.out.trans (x.h.mono HB.out.size));clear hbc hcx hcy fc0 fc1 gc0 gc1 hlb hlb';generalize x.w=w5 at HB2 ⊢;have hq:=hid ((jC (e:=qFw) (show E.length=E'.length by rw [HLe.out,HLe'.out])).trans (hcut.out.1 (by rw [hev.out,T2.out];simp)));clear hcut HA;go_wp2_with fail;exact bodyPost_ret (v:=.bool false) (by simp [results,Tryz.results14,go_sem]) rfl ⟨rb (by rw [<- HR.out];simp [qAr,hq.out]),HB0.out.trans (Below.mono (HB2.out) (show w.heap.size <= w0.heap.size by rw [HZ0.out];omega))⟩
                | true =>
                  have nn:(y2 != z2)=false:=by simp only [bne,t2];rfl
                  have T2:=hid t2;go_wp2_with fail;refine qK (by kernel_rfl) (by kernel_rfl) ?_;have hbc:=fun x=>@Bw.cell wr x
                  repeat (go_big_quiet_step (fail))
                  refine wpQuiet_nil ?_;rintro _ ⟨x,rfl⟩;have HB2:=hid (HB.out.trans (x.h.mono HB.out.size));clear hbc hcx hcy fc0 fc1 gc0 gc1 hlb hlb';generalize x.w=w5 at HB2 ⊢;have HA2:=hid (hcut.out.2 (by rw [hev.out,T2.out];simp));clear hcut HA;go_wp2_with fail;go_roundw
                  case rel=>exact ⟨k + 1,by omega,by go_num,HA2.out,HB2.out⟩
                  case measure=>simp [intOf];omega
               ·
                have s2:¬ y1.toList=z1.toList:=fun h=>s1 (qEd h)
                have S1:=hid s1;have e1:(y1.toList == z1.toList)=false:=by simp [s2]
                clear s1;go_wp2_with fail;refine qK (by kernel_rfl) (by kernel_rfl) ?_;have hbc:=fun x=>@Bw.cell wr x
                repeat (go_big_quiet_step (fail))
                refine wpQuiet_nil ?_;rintro _ ⟨x,rfl⟩;have HB2:=hid (HB.out.trans (x.h.mono HB.out.size));clear hbc hcx hcy fc0 fc1 gc0 gc1 hlb hlb';generalize x.w=w5 at HB2 ⊢;have hq:=hid ((jC (e:=qFw) (show E.length=E'.length by rw [HLe.out,HLe'.out])).trans (hcut.out.1 (by rw [hev.out];simp [S1.out])));clear hcut HA;go_wp2_with fail;exact bodyPost_ret (v:=.bool false) (by simp [results,Tryz.results14,go_sem]) rfl ⟨rb (by rw [<- HR.out];simp [qAr,hq.out]),HB0.out.trans (Below.mono (HB2.out) (show w.heap.size <= w0.heap.size by rw [HZ0.out];omega))⟩
              ·
               have e0:k=ne:=by omega
               subst e0;have ht:(E.zip E').take k=E.zip E':=qW9 (by rw [List.length_zip,HLe.out,HLe'.out];simp);have ha:=HA.out;rw [ht] at ha;have HEe:=hid ((jC (e:=qFw) (show E.length=E'.length by rw [HLe.out,HLe'.out])).trans ha);clear ht ha HA hk hkn hsz
               obtain ⟨wo,rfl⟩:∃ wo:World,wo=wr:=⟨_,rfl⟩
               clear hcx hcy;have c0:=HX.out.cell 0 _ rfl;have d0:=HY.out.cell 0 _ rfl;have c1:=HX.out.cell 1 _ rfl;have d1:=HY.out.cell 1 _ rfl;have c2:=HX.out.cell 2 _ rfl;have d2:=HY.out.cell 2 _ rfl;have c3:=HX.out.cell 3 _ rfl;have d3:=HY.out.cell 3 _ rfl;have c4:=HX.out.cell 4 _ rfl;have d4:=HY.out.cell 4 _ rfl;have c5:=HX.out.cell 5 _ rfl;have d5:=HY.out.cell 5 _ rfl;have c6:=HX.out.cell 6 _ rfl;have d6:=HY.out.cell 6 _ rfl;have c7:=HX.out.cell 7 _ rfl;have d7:=HY.out.cell 7 _ rfl;have c8:=HX.out.cell 8 _ rfl;have d8:=HY.out.cell 8 _ rfl;have c9:=HX.out.cell 9 _ rfl;have d9:=HY.out.cell 9 _ rfl;have c10:=HX.out.cell 10 _ rfl;have d10:=HY.out.cell 10 _ rfl;have c11:=HX.out.cell 11 _ rfl;have d11:=HY.out.cell 11 _ rfl;have c12:=HX.out.cell 12 _ rfl;have d12:=HY.out.cell 12 _ rfl;have c13:=HX.out.cell 13 _ rfl;have d13:=HY.out.cell 13 _ rfl;go_wp2_with fail;have hBB:Below w.heap.size w wo:=HB0.out.trans (HB.out.mono (show w.heap.size <= w0.heap.size by rw [HZ0.out];omega));refine (qFo _ _ _ _ wo (HH.out.below hBB) (HH'.out.below hBB)).mono ?_;rintro e w9 ⟨rfl,hb⟩;have HB9:=hid (Bl.step hBB hb);have he:=HR.out
               obtain ⟨rp,hrp⟩:∃ rp,uY ⟨T,I,F,⟨th,tm,tx⟩,⟨mh,mm,mx⟩,G,E,L,C,D⟩ ⟨T',I',F',⟨th',tm',tx'⟩,⟨mh',mm',mx'⟩,G',E',L',C',D'⟩=rp:=⟨_,rfl⟩
               have HRP:Hid (rp=r):=hid (by rw [<- he,<- hrp];simp [qAr,uY,HEt.out,HEi.out,HPF.out,HPLtable.out,HPLmem.out,HEg.out,HEe.out]);clear hb hBB he c0 d0 c1 d1 c2 d2 c3 d3 c4 d4 c5 d5 c6 d6 c7 d7 c8 d8 c9 d9 c10 d10 c11 d11 c12 d12 c13 d13;go_wp2_with fail;go_ret;exact ⟨rb (by rw [<- HRP.out,<- hrp]),HB9.out⟩
end Go.Proofs.YtbkofpljchkkaaaGreat
