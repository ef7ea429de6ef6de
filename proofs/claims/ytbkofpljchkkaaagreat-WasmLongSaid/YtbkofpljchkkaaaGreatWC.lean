/- Words: WC. -/
import Derived.Laws.CopyOwn
import Derived.Deep.RegionLaw
import Derived.Lib.SliceRun
import Derived.Handy
import Derived.Test.YtbkofpljchkkaaaGreatWA
import Derived.Test.YtbkofpljchkkaaaGreatKD
import Derived.Test.YtbkofpljchkkaaaGreatWB
import Derived.Test.YtbkofpljchkkaaaGreatKE
namespace Go.Proofs.YtbkofpljchkkaaaGreat
open Go.RowKit
structure Rdw (K p:Nat) (w:World) (xs:List Int):Prop where
 le:K <= p
 lt:p < w.heap.size
 fro:w.frozen? ⟨p,0,none⟩=false
 ex:∃ ao n cap,w.cell? ⟨p,0,none⟩=some (.slice ao n cap) /\ Bx (fun b=>b < K) w fun w=>Rd .u8 w ao n cap xs
abbrev rp (p:Nat):Value:=.pointer (some ⟨p,0,none⟩)
section
variable {K p:Nat} {w w':World} {xs:List Int}
theorem Rdw.gr (h:Rdw K p w xs) {r:Option Nat} (hg:w.grownBy w' r) (hr:∀ g,r=some g -> p < g):Rdw K p w' xs:=by
 obtain ⟨ao,n,cap,hc,hx⟩:=h.ex
 have hle:=h.le
 have hb:∀ b,b <= p -> w'.heap[b]?=w.heap[b]?:=fun b hb=>hg.block b (Nat.lt_of_le_of_lt hb h.lt) fun e=>by have:=hr b e.symm;omega
 exact ⟨h.le,Nat.lt_of_lt_of_le h.lt hg.size,(World.frozen?_of_block (a:=⟨p,0,none⟩) (hb p (Nat.le_refl _))).trans h.fro,ao,n,cap,(World.cell?_of_block (a:=⟨p,0,none⟩) (hb p (Nat.le_refl _))).trans hc,hx.keep fun b hbk=>hb b (by omega)⟩
theorem Rdw.below (h:Rdw K p w xs) {B:Nat} (hb:Below B w w') (hB:w.heap.size <= B):Rdw K p w' xs:=h.gr (gr_below hb hB none) fun _ h=>by cases h
theorem Rdw.alloc (h:Rdw K p w xs) (o:Obj):Rdw K p (w.alloc o) xs:=h.below (Bl.alloc (Bl.refl w) o) (Nat.le_refl _)
theorem Rdw.set (h:Rdw K p w xs) {ao:Option Addr} {n cap:Nat} {ys:List Int} (hx:Bx (fun b=>b < K) w fun w=>Rd .u8 w ao n cap ys):Rdw K p (w.setCell ⟨p,0,none⟩ (.slice ao n cap)) ys:=by
 have hle:=h.le
 obtain ⟨ao0,n0,cap0,hc,_⟩:=h.ex
 have hf:=h.fro
 refine ⟨h.le,by simp;exact h.lt,?_,ao,n,cap,?_,hx.keep fun b hb=>Below.heap_setCell w _ _ b (by simp only;omega)⟩
 ·go_simp
 ·go_simp
end
set_option maxRecDepth 100000 in
set_option maxHeartbeats 1000000 in
theorem wtake_to (K p:Nat) (w:World) (xs:List Int) (m:Nat) (h:Rdw K p w xs) (hm:m <= xs.length) (M:Int) (hM:M=m) :
    Calls Tryz.prog 157 #[rp p,.int .i64 M] w fun e w'=>∃ ao cap,e=.returned (.slice ao m cap) /\ (Bx (fun b=>b < K) w' fun w=>Rd .u8 w ao m cap (xs.take m)) /\ Rdw K p w' (xs.drop m) /\ w.grownBy w' (some p):=by
 subst hM
 obtain ⟨ao,n,cap,hc,hx⟩:=h.ex
 have hf:=h.fro
 have hlen:=hx.now.len
 have hle:=hx.now.le
 have hc63:=hx.now.cap63
 rw [hlen] at hm
 have hcut1:=run_cut_h (P:=Tryz.prog) 37 elem_b size_b ao n cap (m:Int) m rfl (by omega)
 have hcut2:=run_cut_l (P:=Tryz.prog) 37 elem_b size_b ao n cap (m:Int) m rfl hm
 have h1:Bx (fun b=>b < K) w fun w=>Rd .u8 w ao m cap (xs.take m):=hx.imp fun _ h=>h.upto hm
 have h2:Bx (fun b=>b < K) w fun w=>Rd .u8 w (cutAt ao m cap) (n - m) (cap - m) (xs.drop m):=hx.imp fun _ h=>by
  have:=h.cut m n hm (Nat.le_refl _)
  rwa [List.take_of_length_le (by rw [hlen];exact Nat.le_refl _)] at this
 obtain ⟨co,hco⟩:∃ co,cutAt ao m cap=co:=⟨_,rfl⟩
 obtain ⟨cn,hcn⟩:∃ cn,n - m=cn:=⟨_,rfl⟩
 obtain ⟨cc,hcc⟩:∃ cc,cap - m=cc:=⟨_,rfl⟩
 rw [hco,hcn,hcc] at h2 hcut2
 have H:=hid h
 have hle':=h.le
 have H1:=hid (h1.keep (w':=w.setCell ⟨p,0,none⟩ (.slice co cn cc)) fun b hb=>Below.heap_setCell w _ _ b (by simp only;omega))
 have H2:=hid (h.set h2)
 have hmn:(m:Int) <= n:=by omega
 clear hco hcn hcc h1 h2 hx h hlen
 go_enter Tryz.func157,Tryz.ntmps157
 go_wp2_with fail
 exact bodyPost_ret (v:=.slice ao m cap) (by simp [results,Tryz.results157,go_sem]) rfl ⟨ao,cap,rfl,H1.out,H2.out,grown_set w ⟨p,0,none⟩ _⟩
set_option maxRecDepth 100000 in
theorem wpass_to (K p:Nat) (w:World) (xs:List Int) (m:Nat) (h:Rdw K p w xs) (hm:m <= xs.length) (M:Int) (hM:M=m) :
    Calls Tryz.prog 102 #[rp p,.int .i64 M] w fun e w'=>e=.returned (.tuple #[]) /\ Rdw K p w' (xs.drop m) /\ w.grownBy w' (some p):=by
 have ht:=wtake_to K p w xs m h hm M hM
 have HT:=hid ht
 clear ht h hM
 go_enter Tryz.func102,Tryz.ntmps102
 go_wp2_with fail
 refine HT.out.mono ?_
 rintro e w1 ⟨ao,cap,rfl,_,hr,hg⟩
 have HR:=hid hr
 have HG:=hid hg
 clear hr hg
 go_wp2_with fail
 refine bodyPost_end (results_none rfl _ _ _) rfl ?_
 exact ⟨rfl,HR.out,HG.out⟩
set_option maxRecDepth 100000 in
theorem wone_to (K p:Nat) (w:World) (x:Int) (xs:List Int) (h:Rdw K p w (x :: xs)) :
    Calls Tryz.prog 166 #[rp p] w fun e w'=>e=.returned (.int .u8 x) /\ Rdw K p w' xs /\ w.grownBy w' (some p):=by
 have ht:=wtake_to K p w (x :: xs) 1 h (by simp) 1 rfl
 have HT:=hid ht
 clear ht h
 go_enter Tryz.func166,Tryz.ntmps166
 go_wp2_with fail
 refine HT.out.mono ?_
 rintro e w1 ⟨ao,cap,rfl,hx,hr,hg⟩
 have hn:=hx.now
 obtain ⟨b,off,rfl,hc⟩:=hn.at (by decide)
 have hc0:=hc 0 (by decide)
 have HR:=hid hr
 have HG:=hid hg
 simp only [List.take_succ_cons,List.take_zero,List.getD_cons_zero,Nat.add_zero] at hc0
 clear hr hg hx hn hc
 go_wp2_with fail
 go_ret
 exact ⟨rfl,HR.out,HG.out⟩
set_option maxRecDepth 100000 in
theorem getNumber_to (K p:Nat) (w:World) (u:Int) (xs:List Int) (h0:0 <= u) (h1:u < 4294967296) (h:Rdw K p w (numE u ++ xs)) :
    Calls Tryz.prog 108 #[rp p] w fun e w'=>e=.returned (.int .i64 u) /\ Rdw K p w' xs /\ w.grownBy w' (some p):=by
 obtain ⟨ao,n,cap,hc,hx⟩:=h.ex
 have hu:=U_to ao n cap _ 32 w hx.now (by decide) (by decide) u _ 0 (decU_enc u xs h0 h1)
 have hl:(encU 9 u).length <= (numE u ++ xs).length:=by simp [numE]
 obtain ⟨m,hm⟩:∃ m,m=(encU 9 u).length:=⟨_,rfl⟩
 rw [<- hm] at hu hl
 have hp:=wpass_to K p w _ m h hl m rfl
 have hd:(numE u ++ xs).drop m=xs:=by rw [hm];unfold numE;simp
 rw [hd] at hp
 have hw:IntKind.i64.wrap u=u:=IntWalk.i64_in _ (by omega)
 have hw':wrap64 u=u:=wrap64_id u (by omega) (by omega)
 have HU:=hid hu
 have HP:=hid hp
 clear hu hp hd hm h hx hl
 go_enter Tryz.func108,Tryz.ntmps108
 go_wp2_with fail
 refine HU.out.mono ?_
 rintro e w' ⟨rfl,rfl⟩
 go_wp2_with fail
 refine HP.out.mono ?_
 rintro e w1 ⟨rfl,hr,hg⟩
 have HR:=hid hr
 have HG:=hid hg
 clear hr hg
 go_wp2_with fail
 go_ret
 exact ⟨rfl,HR.out,HG.out⟩
set_option maxRecDepth 100000 in
theorem getKind_to (K p:Nat) (w:World) (k:Int) (xs:List Int) (hk:mayK k=true) (h:Rdw K p w (kE k ++ xs)) :
    Calls Tryz.prog 160 #[rp p] w fun e w'=>e=.returned (.int .i64 k) /\ Rdw K p w' xs /\ w.grownBy w' (some p):=by
 have hone:=wone_to K p w (kB k) xs h
 have HO:=hid hone
 clear hone h
 have e:k=1 ∨ k=2:=by simpa [mayK] using hk
 rcases e with rfl | rfl
 ·have HO1:Hid (Calls Tryz.prog 166 #[rp p] w fun e w'=>e=.returned (.int .u8 127) /\ Rdw K p w' xs /\ w.grownBy w' (some p)):=HO
  clear HO hk
  go_enter Tryz.func160,Tryz.ntmps160
  go_wp2_with fail
  refine HO1.out.mono ?_
  rintro e w1 ⟨rfl,hr,hg⟩
  have HR:=hid hr
  have HG:=hid hg
  clear hr hg
  go_wp2_with fail
  go_ret
  exact ⟨rfl,HR.out,HG.out⟩
 ·have HO1:Hid (Calls Tryz.prog 166 #[rp p] w fun e w'=>e=.returned (.int .u8 126) /\ Rdw K p w' xs /\ w.grownBy w' (some p)):=HO
  clear HO hk
  go_enter Tryz.func160,Tryz.ntmps160
  go_wp2_with fail
  refine HO1.out.mono ?_
  rintro e w1 ⟨rfl,hr,hg⟩
  have HR:=hid hr
  have HG:=hid hg
  clear hr hg
  go_wp2_with fail
  go_ret
  exact ⟨rfl,HR.out,HG.out⟩
open Go.RowKit
theorem infoTy:(Tryz.prog.info? 53).map (fun i=>(i.zero,i.size,i.bytes))=some (some (.agg #[.slice none 0 0,.slice none 0 0]),2,48):=by kernel_rfl
theorem infoIm:(Tryz.prog.info? 62).map (fun i=>(i.zero,i.size,i.bytes))=some (some (.agg #[.string ⟨#[]⟩,.string ⟨#[]⟩,.int .i64 0]),3,40):=by kernel_rfl
theorem infoLi:(Tryz.prog.info? 26).map (fun i=>(i.zero,i.size,i.bytes))=some (some (.agg #[.bool false,.int .i64 0,.int .i64 0]),3,24):=by kernel_rfl
theorem infoGl:(Tryz.prog.info? 58).map (fun i=>(i.zero,i.size,i.bytes))=some (some (.agg #[.bool false,.int .i64 0,.int .i64 0]),3,24):=by kernel_rfl
theorem infoEx:(Tryz.prog.info? 60).map (fun i=>(i.zero,i.size,i.bytes))=some (some (.agg #[.string ⟨#[]⟩,.int .i64 0]),2,24):=by kernel_rfl
theorem infoEl:(Tryz.prog.info? 67).map (fun i=>(i.zero,i.size,i.bytes))=some (some (.agg #[.int .i64 0,.slice none 0 0]),2,32):=by kernel_rfl
theorem infoCo:(Tryz.prog.info? 49).map (fun i=>(i.zero,i.size,i.bytes))=some (some (.agg #[.slice none 0 0,.slice none 0 0]),2,48):=by kernel_rfl
theorem infoDa:(Tryz.prog.info? 44).map (fun i=>(i.zero,i.size,i.bytes))=some (some (.agg #[.int .i64 0,.slice none 0 0]),2,32):=by kernel_rfl
theorem infoRu:(Tryz.prog.info? 184).map (fun i=>(i.zero,i.size,i.bytes))=some (some (.agg #[.int .i64 0,.int .i64 0]),2,16):=by kernel_rfl
theorem infoI:(Tryz.prog.info? 3).map (fun i=>(i.zero,i.size,i.bytes))=some (some (.int .i64 0),1,8):=by kernel_rfl
theorem drop_flat {α:Type} (f:α -> List Int) (xs:List α) (k:Nat) (x:α) (hx:xs[k]?=some x):(xs.drop k).flatMap f=f x ++ (xs.drop (k + 1)).flatMap f:=by
 have hk:=(List.getElem?_eq_some_iff.1 hx).1
 rw [List.drop_eq_getElem_cons hk,List.flatMap_cons]
 rw [List.getElem?_eq_getElem hk] at hx
 cases hx
 rfl
def _root_.Go.Value.lenN:Value -> Nat
 | .slice _ n _=>n
 | _=>0
def GotI (K p:Nat) (w:World) (x:Int) (tail:List Int) (e:Ending) (w':World):Prop :=
 ∃ cs,e=.returned ((cs.getD 0 undef)) /\ Bx (fun b=>w.heap.size <= b /\ b < w'.heap.size) w' (fun w=>IR .i64 w cs x) /\ Rdw K p w' tail /\ w.grownBy w' (some p)
set_option maxRecDepth 100000 in
set_option maxHeartbeats 2000000 in
theorem gvI_to (g:Nat) (f:Int -> List Int) (K p:Nat) (xs:List (Int)) (tail:List Int) (w:World) (h:Rdw K p w (vecE f xs ++ tail)) (he:∀ args w,(callFunc g args).run Tryz.prog w=.ok (.enter g args) w) (hn:xs.length <= 100000)
    (hne:∀ x ∈ xs,0 < (f x).length)
    (HF:∀ w x t,x ∈ xs -> Rdw K p w (f x ++ t) -> Calls Tryz.prog g #[rp p] w (GotI K p w x t)) :
    Calls Tryz.prog 159 #[rp p,.func (.func g) #[] #[]] w fun e w'=>∃ v,e=.returned v /\ OwnG 3 1 (IR .i64) w.heap.size w' v xs /\ Rdw K p w' tail /\ w.grownBy w' (some p):=by
 have hnum:=getNumber_to K p w (xs.length:Int) (xs.flatMap f ++ tail) (by omega) (by omega) (by unfold vecE at h;rw [List.append_assoc] at h;exact h)
 have hpw:=h.lt
 have hKp:=h.le
 have HNUM:=hid hnum
 have HFF:=hid HF
 have HNE:=hid hne
 clear h HF hne hnum
 obtain ⟨n,hnn⟩:∃ n,xs.length=n:=⟨_,rfl⟩
 rw [hnn] at HNUM hn
 have Hl:=hid hnn
 clear hnn
 go_enter Tryz.func159,Tryz.ntmps159
 go_wp2_with fail
 refine HNUM.out.mono ?_
 rintro e w0 ⟨rfl,hr0,hg0⟩
 have HR0:=hid hr0
 have HG0:=hid hg0
 clear hr0 hg0
 go_wp2_with fail
 go_loopw [6] (fun v wr=>∃ k:Nat,k <= n /\ OwnG 3 1 (IR .i64) w.heap.size wr v (xs.take k) /\ (v.lenN=k) /\ Rdw K p wr ((xs.drop k).flatMap f ++ tail) /\ w.grownBy wr (some p)) (fun v _=>n - v.lenN)
 case atStart=>exact ⟨0,Nat.zero_le _,OwnG.nil _ _ _ _ _,rfl,HR0.out,HG0.out⟩
 case round =>
  obtain ⟨k,hkn,ho,hv,hr,hg⟩:=hrel
  have hsz:=hg.size
  have HO:=hid ho
  have HR:=hid hr
  have HG:=hid hg
  obtain ⟨vo,vc,hve,_,_,_⟩:=ho.shape
  have htl:(xs.take k).length=k:=by rw [List.length_take,Hl.out];omega
  rw [htl] at hve
  obtain ⟨ro,rn,rc,hcell,hrx⟩:=hr.ex
  have hrl:=hrx.now.len
  clear ho hr hg hv
  subst hve
  by_cases hk:k < n
  ·obtain ⟨x,hx⟩:∃ x,xs[k]?=some x:=⟨xs[k]'(by rw [Hl.out];exact hk),List.getElem?_eq_getElem (by rw [Hl.out];exact hk)⟩
   have HX:=hid (List.mem_of_getElem? hx)
   have hfx:=HNE.out x HX.out
   have hdf:=drop_flat f xs k x hx
   have hr2:=HR.out
   rw [hdf,List.append_assoc] at hr2
   have hrn:0 < rn:=by rw [<- hrl,hdf];simp only [List.length_append];omega
   have hrn':¬ (rn:Int) <= 0:=by omega
   have htk:xs.take (k + 1)=xs.take k ++ [x]:=by rw [List.take_add_one,hx];rfl
   have HTK:=hid htk
   have hcall:=HFF.out wr x _ HX.out hr2
   have HCALL:=hid hcall
   clear hx hfx hdf hr2 hrl hrx hcall htk
   go_wp2_with fail
   refine HCALL.out.mono ?_
   rintro e w1 ⟨cs,rfl,hbx,hrd1,hg1⟩
   obtain ⟨rfl,hw⟩:=hbx.now
   have HR1:=hid hrd1
   have HBX:=hid hbx
   have HG1:=hid hg1
   have hsz1:=hg1.size
   have HO1:=hid (HO.out.kept hg1 (fun q e=>by have h:p=q:=(by simpa using e);omega))
   have HOLT:=hid HO.out.lt
   clear hbx hrd1 hg1 hw hcell HCALL HO
   skip
   go_wp2_with (at_builtin;apply stopHere)
   refine hid ?_
   refine wpList_append_g rfl (.tmp 21) (.tmp 25) 24 rfl _ _ Tryz.underlying24 infoI rfl (by decide) rfl (HO1.out.alloc (.cells #[.int .i64 x] 3)) (by simp;omega) w1.heap.size [.int .i64 x] rfl rfl (fun j u hu=>(Cel.new w1 [.int .i64 x] 3).cell j u hu) (by simp [Value.oneCell']) x
    (HBX.out.to (fun b hb=>Below.heap_alloc w1 _ b hb.2) (fun b hb=>⟨by omega,by simp;omega,fun e=>by have:=(HOLT.out b e).2;omega⟩)) (by rw [htl];omega) (by rw [htl];omega) ?_
   intro v2 w2 o1 o2
   have HO2:=hid o1
   have HG2:=hid (gr_row (gr_alloc (gr_trans HG.out HG1.out) (.cells #[.int .i64 x] 3)) o2 (fun q hq=>(HOLT.out q hq).1))
   have HR2:=hid ((HR1.out.alloc (.cells #[.int .i64 x] 3)).gr o2 (fun q hq=>by have:=(HOLT.out q hq).1;omega))
   obtain ⟨vo2,vc2,hve2,_,_,_⟩:=o1.shape
   have hv2l:(xs.take k ++ [x]).length=k + 1:=by rw [List.length_append,htl];rfl
   rw [hv2l] at hve2
   subst hve2
   clear o1 o2 HBX HOLT HO1 HR1 HG1
   go_wp2_with fail
   go_roundw
   case rel =>
    refine ⟨k + 1,by omega,?_,rfl,HR2.out,HG2.out⟩
    rw [HTK.out]
    exact HO2.out
   case measure=>simp [Value.lenN];omega
  ·have e0:k=n:=by omega
   subst e0
   have ht:xs.take k=xs:=List.take_of_length_le (by rw [Hl.out];exact Nat.le_refl _)
   have hd:xs.drop k=[]:=List.drop_eq_nil_of_le (by rw [Hl.out];exact Nat.le_refl _)
   have ha:=HO.out
   have hb:=HR.out
   rw [ht] at ha
   rw [hd] at hb
   have HA2:=hid ha
   have HB2:=hid hb
   clear ht ha hd hb hrx hrl
   go_wp2_with fail
   exact bodyPost_ret (v:=.slice vo k vc) (by simp [results,Tryz.results159,go_sem]) rfl ⟨_,rfl,HA2.out,HB2.out,HG.out⟩
def GotTy (K p:Nat) (w:World) (x:MTy) (tail:List Int) (e:Ending) (w':World):Prop :=
 ∃ cs,e=.returned (.agg cs.toArray) /\ Bx (fun b=>w.heap.size <= b /\ b < w'.heap.size) w' (fun w=>TyR w cs x) /\ Rdw K p w' tail /\ w.grownBy w' (some p)
set_option maxRecDepth 100000 in
set_option maxHeartbeats 2000000 in
theorem gvTy_to (g:Nat) (f:MTy -> List Int) (K p:Nat) (xs:List (MTy)) (tail:List Int) (w:World) (h:Rdw K p w (vecE f xs ++ tail)) (he:∀ args w,(callFunc g args).run Tryz.prog w=.ok (.enter g args) w) (hn:xs.length <= 100000)
    (hne:∀ x ∈ xs,0 < (f x).length)
    (HF:∀ w x t,x ∈ xs -> Rdw K p w (f x ++ t) -> Calls Tryz.prog g #[rp p] w (GotTy K p w x t)) :
    Calls Tryz.prog 158 #[rp p,.func (.func g) #[] #[]] w fun e w'=>∃ v,e=.returned v /\ OwnG 53 2 (TyR) w.heap.size w' v xs /\ Rdw K p w' tail /\ w.grownBy w' (some p):=by
 have hnum:=getNumber_to K p w (xs.length:Int) (xs.flatMap f ++ tail) (by omega) (by omega) (by unfold vecE at h;rw [List.append_assoc] at h;exact h)
 have hpw:=h.lt
 have hKp:=h.le
 have HNUM:=hid hnum
 have HFF:=hid HF
 have HNE:=hid hne
 clear h HF hne hnum
 obtain ⟨n,hnn⟩:∃ n,xs.length=n:=⟨_,rfl⟩
 rw [hnn] at HNUM hn
 have Hl:=hid hnn
 clear hnn
 go_enter Tryz.func158,Tryz.ntmps158
 go_wp2_with fail
 refine HNUM.out.mono ?_
 rintro e w0 ⟨rfl,hr0,hg0⟩
 have HR0:=hid hr0
 have HG0:=hid hg0
 clear hr0 hg0
 go_wp2_with fail
 go_loopw [6] (fun v wr=>∃ k:Nat,k <= n /\ OwnG 53 2 (TyR) w.heap.size wr v (xs.take k) /\ (v.lenN=k) /\ Rdw K p wr ((xs.drop k).flatMap f ++ tail) /\ w.grownBy wr (some p)) (fun v _=>n - v.lenN)
 case atStart=>exact ⟨0,Nat.zero_le _,OwnG.nil _ _ _ _ _,rfl,HR0.out,HG0.out⟩
 case round =>
  obtain ⟨k,hkn,ho,hv,hr,hg⟩:=hrel
  have hsz:=hg.size
  have HO:=hid ho
  have HR:=hid hr
  have HG:=hid hg
  obtain ⟨vo,vc,hve,_,_,_⟩:=ho.shape
  have htl:(xs.take k).length=k:=by rw [List.length_take,Hl.out];omega
  rw [htl] at hve
  obtain ⟨ro,rn,rc,hcell,hrx⟩:=hr.ex
  have hrl:=hrx.now.len
  clear ho hr hg hv
  subst hve
  by_cases hk:k < n
  ·obtain ⟨x,hx⟩:∃ x,xs[k]?=some x:=⟨xs[k]'(by rw [Hl.out];exact hk),List.getElem?_eq_getElem (by rw [Hl.out];exact hk)⟩
   have HX:=hid (List.mem_of_getElem? hx)
   have hfx:=HNE.out x HX.out
   have hdf:=drop_flat f xs k x hx
   have hr2:=HR.out
   rw [hdf,List.append_assoc] at hr2
   have hrn:0 < rn:=by rw [<- hrl,hdf];simp only [List.length_append];omega
   have hrn':¬ (rn:Int) <= 0:=by omega
   have htk:xs.take (k + 1)=xs.take k ++ [x]:=by rw [List.take_add_one,hx];rfl
   have HTK:=hid htk
   have hcall:=HFF.out wr x _ HX.out hr2
   have HCALL:=hid hcall
   clear hx hfx hdf hr2 hrl hrx hcall htk
   go_wp2_with fail
   refine HCALL.out.mono ?_
   rintro e w1 ⟨cs,rfl,hbx,hrd1,hg1⟩
   obtain ⟨a1,n1,k1,a2,n2,k2,rfl,hr1,hr2⟩:=hbx.now
   have HR1:=hid hrd1
   have HBX:=hid hbx
   have HG1:=hid hg1
   have hsz1:=hg1.size
   have HO1:=hid (HO.out.kept hg1 (fun q e=>by have h:p=q:=(by simpa using e);omega))
   have HOLT:=hid HO.out.lt
   clear hbx hrd1 hg1 hr1 hr2 hcell HCALL HO
   skip
   go_wp2_with (at_builtin;apply stopHere)
   refine hid ?_
   refine wpList_append_g rfl (.tmp 21) (.tmp 25) 22 rfl _ _ Tryz.underlying22 infoTy rfl (by decide) rfl (HO1.out.alloc (.cells #[.slice a1 n1 k1,.slice a2 n2 k2] 53)) (by simp;omega) w1.heap.size [.slice a1 n1 k1,.slice a2 n2 k2] rfl rfl (fun j u hu=>(Cel.new w1 [.slice a1 n1 k1,.slice a2 n2 k2] 53).cell j u hu) (by simp [Value.oneCell']) x
    (HBX.out.to (fun b hb=>Below.heap_alloc w1 _ b hb.2) (fun b hb=>⟨by omega,by simp;omega,fun e=>by have:=(HOLT.out b e).2;omega⟩)) (by rw [htl];omega) (by rw [htl];omega) ?_
   intro v2 w2 o1 o2
   have HO2:=hid o1
   have HG2:=hid (gr_row (gr_alloc (gr_trans HG.out HG1.out) (.cells #[.slice a1 n1 k1,.slice a2 n2 k2] 53)) o2 (fun q hq=>(HOLT.out q hq).1))
   have HR2:=hid ((HR1.out.alloc (.cells #[.slice a1 n1 k1,.slice a2 n2 k2] 53)).gr o2 (fun q hq=>by have:=(HOLT.out q hq).1;omega))
   obtain ⟨vo2,vc2,hve2,_,_,_⟩:=o1.shape
   have hv2l:(xs.take k ++ [x]).length=k + 1:=by rw [List.length_append,htl];rfl
   rw [hv2l] at hve2
   subst hve2
   clear o1 o2 HBX HOLT HO1 HR1 HG1
   go_wp2_with fail
   go_roundw
   case rel =>
    refine ⟨k + 1,by omega,?_,rfl,HR2.out,HG2.out⟩
    rw [HTK.out]
    exact HO2.out
   case measure=>simp [Value.lenN];omega
  ·have e0:k=n:=by omega
   subst e0
   have ht:xs.take k=xs:=List.take_of_length_le (by rw [Hl.out];exact Nat.le_refl _)
   have hd:xs.drop k=[]:=List.drop_eq_nil_of_le (by rw [Hl.out];exact Nat.le_refl _)
   have ha:=HO.out
   have hb:=HR.out
   rw [ht] at ha
   rw [hd] at hb
   have HA2:=hid ha
   have HB2:=hid hb
   clear ht ha hd hb hrx hrl
   go_wp2_with fail
   exact bodyPost_ret (v:=.slice vo k vc) (by simp [results,Tryz.results158,go_sem]) rfl ⟨_,rfl,HA2.out,HB2.out,HG.out⟩
def GotIm (K p:Nat) (w:World) (x:MIm) (tail:List Int) (e:Ending) (w':World):Prop :=
 ∃ cs,e=.returned (.agg cs.toArray) /\ Bx (fun b=>w.heap.size <= b /\ b < w'.heap.size) w' (fun w=>ImR w cs x) /\ Rdw K p w' tail /\ w.grownBy w' (some p)
set_option maxRecDepth 100000 in
set_option maxHeartbeats 2000000 in
theorem gvIm_to (g:Nat) (f:MIm -> List Int) (K p:Nat) (xs:List (MIm)) (tail:List Int) (w:World) (h:Rdw K p w (vecE f xs ++ tail)) (he:∀ args w,(callFunc g args).run Tryz.prog w=.ok (.enter g args) w) (hn:xs.length <= 100000)
    (hne:∀ x ∈ xs,0 < (f x).length)
    (HF:∀ w x t,x ∈ xs -> Rdw K p w (f x ++ t) -> Calls Tryz.prog g #[rp p] w (GotIm K p w x t)) :
    Calls Tryz.prog 161 #[rp p,.func (.func g) #[] #[]] w fun e w'=>∃ v,e=.returned v /\ OwnG 62 3 (ImR) w.heap.size w' v xs /\ Rdw K p w' tail /\ w.grownBy w' (some p):=by
 have hnum:=getNumber_to K p w (xs.length:Int) (xs.flatMap f ++ tail) (by omega) (by omega) (by unfold vecE at h;rw [List.append_assoc] at h;exact h)
 have hpw:=h.lt
 have hKp:=h.le
 have HNUM:=hid hnum
 have HFF:=hid HF
 have HNE:=hid hne
 clear h HF hne hnum
 obtain ⟨n,hnn⟩:∃ n,xs.length=n:=⟨_,rfl⟩
 rw [hnn] at HNUM hn
 have Hl:=hid hnn
 clear hnn
 go_enter Tryz.func161,Tryz.ntmps161
 go_wp2_with fail
 refine HNUM.out.mono ?_
 rintro e w0 ⟨rfl,hr0,hg0⟩
 have HR0:=hid hr0
 have HG0:=hid hg0
 clear hr0 hg0
 go_wp2_with fail
 go_loopw [6] (fun v wr=>∃ k:Nat,k <= n /\ OwnG 62 3 (ImR) w.heap.size wr v (xs.take k) /\ (v.lenN=k) /\ Rdw K p wr ((xs.drop k).flatMap f ++ tail) /\ w.grownBy wr (some p)) (fun v _=>n - v.lenN)
 case atStart=>exact ⟨0,Nat.zero_le _,OwnG.nil _ _ _ _ _,rfl,HR0.out,HG0.out⟩
 case round =>
  obtain ⟨k,hkn,ho,hv,hr,hg⟩:=hrel
  have hsz:=hg.size
  have HO:=hid ho
  have HR:=hid hr
  have HG:=hid hg
  obtain ⟨vo,vc,hve,_,_,_⟩:=ho.shape
  have htl:(xs.take k).length=k:=by rw [List.length_take,Hl.out];omega
  rw [htl] at hve
  obtain ⟨ro,rn,rc,hcell,hrx⟩:=hr.ex
  have hrl:=hrx.now.len
  clear ho hr hg hv
  subst hve
  by_cases hk:k < n
  ·obtain ⟨x,hx⟩:∃ x,xs[k]?=some x:=⟨xs[k]'(by rw [Hl.out];exact hk),List.getElem?_eq_getElem (by rw [Hl.out];exact hk)⟩
   have HX:=hid (List.mem_of_getElem? hx)
   have hfx:=HNE.out x HX.out
   have hdf:=drop_flat f xs k x hx
   have hr2:=HR.out
   rw [hdf,List.append_assoc] at hr2
   have hrn:0 < rn:=by rw [<- hrl,hdf];simp only [List.length_append];omega
   have hrn':¬ (rn:Int) <= 0:=by omega
   have htk:xs.take (k + 1)=xs.take k ++ [x]:=by rw [List.take_add_one,hx];rfl
   have HTK:=hid htk
   have hcall:=HFF.out wr x _ HX.out hr2
   have HCALL:=hid hcall
   clear hx hfx hdf hr2 hrl hrx hcall htk
   go_wp2_with fail
   refine HCALL.out.mono ?_
   rintro e w1 ⟨cs,rfl,hbx,hrd1,hg1⟩
   obtain rfl:=hbx.now
   have HR1:=hid hrd1
   have HBX:=hid hbx
   have HG1:=hid hg1
   have hsz1:=hg1.size
   have HO1:=hid (HO.out.kept hg1 (fun q e=>by have h:p=q:=(by simpa using e);omega))
   have HOLT:=hid HO.out.lt
   clear hbx hrd1 hg1  hcell HCALL HO
   skip
   go_wp2_with (at_builtin;apply stopHere)
   refine hid ?_
   refine wpList_append_g rfl (.tmp 21) (.tmp 25) 23 rfl _ _ Tryz.underlying23 infoIm rfl (by decide) rfl (HO1.out.alloc (.cells #[.string x.mod,.string x.name,.int .i64 x.typ] 62)) (by simp;omega) w1.heap.size [.string x.mod,.string x.name,.int .i64 x.typ] rfl rfl (fun j u hu=>(Cel.new w1 [.string x.mod,.string x.name,.int .i64 x.typ] 62).cell j u hu) (by simp [Value.oneCell']) x
    (HBX.out.to (fun b hb=>Below.heap_alloc w1 _ b hb.2) (fun b hb=>⟨by omega,by simp;omega,fun e=>by have:=(HOLT.out b e).2;omega⟩)) (by rw [htl];omega) (by rw [htl];omega) ?_
   intro v2 w2 o1 o2
   have HO2:=hid o1
   have HG2:=hid (gr_row (gr_alloc (gr_trans HG.out HG1.out) (.cells #[.string x.mod,.string x.name,.int .i64 x.typ] 62)) o2 (fun q hq=>(HOLT.out q hq).1))
   have HR2:=hid ((HR1.out.alloc (.cells #[.string x.mod,.string x.name,.int .i64 x.typ] 62)).gr o2 (fun q hq=>by have:=(HOLT.out q hq).1;omega))
   obtain ⟨vo2,vc2,hve2,_,_,_⟩:=o1.shape
   have hv2l:(xs.take k ++ [x]).length=k + 1:=by rw [List.length_append,htl];rfl
   rw [hv2l] at hve2
   subst hve2
   clear o1 o2 HBX HOLT HO1 HR1 HG1
   go_wp2_with fail
   go_roundw
   case rel =>
    refine ⟨k + 1,by omega,?_,rfl,HR2.out,HG2.out⟩
    rw [HTK.out]
    exact HO2.out
   case measure=>simp [Value.lenN];omega
  ·have e0:k=n:=by omega
   subst e0
   have ht:xs.take k=xs:=List.take_of_length_le (by rw [Hl.out];exact Nat.le_refl _)
   have hd:xs.drop k=[]:=List.drop_eq_nil_of_le (by rw [Hl.out];exact Nat.le_refl _)
   have ha:=HO.out
   have hb:=HR.out
   rw [ht] at ha
   rw [hd] at hb
   have HA2:=hid ha
   have HB2:=hid hb
   clear ht ha hd hb hrx hrl
   go_wp2_with fail
   exact bodyPost_ret (v:=.slice vo k vc) (by simp [results,Tryz.results161,go_sem]) rfl ⟨_,rfl,HA2.out,HB2.out,HG.out⟩
def GotLi (K p:Nat) (w:World) (x:MLi) (tail:List Int) (e:Ending) (w':World):Prop :=
 ∃ cs,e=.returned (.agg cs.toArray) /\ Bx (fun b=>w.heap.size <= b /\ b < w'.heap.size) w' (fun w=>LiR w cs x) /\ Rdw K p w' tail /\ w.grownBy w' (some p)
set_option maxRecDepth 100000 in
set_option maxHeartbeats 2000000 in
theorem gvLi_to (g:Nat) (f:MLi -> List Int) (K p:Nat) (xs:List (MLi)) (tail:List Int) (w:World) (h:Rdw K p w (vecE f xs ++ tail)) (he:∀ args w,(callFunc g args).run Tryz.prog w=.ok (.enter g args) w) (hn:xs.length <= 100000)
    (hne:∀ x ∈ xs,0 < (f x).length)
    (HF:∀ w x t,x ∈ xs -> Rdw K p w (f x ++ t) -> Calls Tryz.prog g #[rp p] w (GotLi K p w x t)) :
    Calls Tryz.prog 165 #[rp p,.func (.func g) #[] #[]] w fun e w'=>∃ v,e=.returned v /\ OwnG 26 3 (LiR) w.heap.size w' v xs /\ Rdw K p w' tail /\ w.grownBy w' (some p):=by
 have hnum:=getNumber_to K p w (xs.length:Int) (xs.flatMap f ++ tail) (by omega) (by omega) (by unfold vecE at h;rw [List.append_assoc] at h;exact h)
 have hpw:=h.lt
 have hKp:=h.le
 have HNUM:=hid hnum
 have HFF:=hid HF
 have HNE:=hid hne
 clear h HF hne hnum
 obtain ⟨n,hnn⟩:∃ n,xs.length=n:=⟨_,rfl⟩
 rw [hnn] at HNUM hn
 have Hl:=hid hnn
 clear hnn
 go_enter Tryz.func165,Tryz.ntmps165
 go_wp2_with fail
 refine HNUM.out.mono ?_
 rintro e w0 ⟨rfl,hr0,hg0⟩
 have HR0:=hid hr0
 have HG0:=hid hg0
 clear hr0 hg0
 go_wp2_with fail
 go_loopw [6] (fun v wr=>∃ k:Nat,k <= n /\ OwnG 26 3 (LiR) w.heap.size wr v (xs.take k) /\ (v.lenN=k) /\ Rdw K p wr ((xs.drop k).flatMap f ++ tail) /\ w.grownBy wr (some p)) (fun v _=>n - v.lenN)
 case atStart=>exact ⟨0,Nat.zero_le _,OwnG.nil _ _ _ _ _,rfl,HR0.out,HG0.out⟩
 case round =>
  obtain ⟨k,hkn,ho,hv,hr,hg⟩:=hrel
  have hsz:=hg.size
  have HO:=hid ho
  have HR:=hid hr
  have HG:=hid hg
  obtain ⟨vo,vc,hve,_,_,_⟩:=ho.shape
  have htl:(xs.take k).length=k:=by rw [List.length_take,Hl.out];omega
  rw [htl] at hve
  obtain ⟨ro,rn,rc,hcell,hrx⟩:=hr.ex
  have hrl:=hrx.now.len
  clear ho hr hg hv
  subst hve
  by_cases hk:k < n
  ·obtain ⟨x,hx⟩:∃ x,xs[k]?=some x:=⟨xs[k]'(by rw [Hl.out];exact hk),List.getElem?_eq_getElem (by rw [Hl.out];exact hk)⟩
   have HX:=hid (List.mem_of_getElem? hx)
   have hfx:=HNE.out x HX.out
   have hdf:=drop_flat f xs k x hx
   have hr2:=HR.out
   rw [hdf,List.append_assoc] at hr2
   have hrn:0 < rn:=by rw [<- hrl,hdf];simp only [List.length_append];omega
   have hrn':¬ (rn:Int) <= 0:=by omega
   have htk:xs.take (k + 1)=xs.take k ++ [x]:=by rw [List.take_add_one,hx];rfl
   have HTK:=hid htk
   have hcall:=HFF.out wr x _ HX.out hr2
   have HCALL:=hid hcall
   clear hx hfx hdf hr2 hrl hrx hcall htk
   go_wp2_with fail
   refine HCALL.out.mono ?_
   rintro e w1 ⟨cs,rfl,hbx,hrd1,hg1⟩
   obtain rfl:=hbx.now
   have HR1:=hid hrd1
   have HBX:=hid hbx
   have HG1:=hid hg1
   have hsz1:=hg1.size
   have HO1:=hid (HO.out.kept hg1 (fun q e=>by have h:p=q:=(by simpa using e);omega))
   have HOLT:=hid HO.out.lt
   clear hbx hrd1 hg1  hcell HCALL HO
   skip
   go_wp2_with (at_builtin;apply stopHere)
   refine hid ?_
   refine wpList_append_g rfl (.tmp 21) (.tmp 25) 109 rfl _ _ Tryz.underlying109 infoLi rfl (by decide) rfl (HO1.out.alloc (.cells #[.bool x.has,.int .i64 x.mn,.int .i64 x.mx] 26)) (by simp;omega) w1.heap.size [.bool x.has,.int .i64 x.mn,.int .i64 x.mx] rfl rfl (fun j u hu=>(Cel.new w1 [.bool x.has,.int .i64 x.mn,.int .i64 x.mx] 26).cell j u hu) (by simp [Value.oneCell']) x
    (HBX.out.to (fun b hb=>Below.heap_alloc w1 _ b hb.2) (fun b hb=>⟨by omega,by simp;omega,fun e=>by have:=(HOLT.out b e).2;omega⟩)) (by rw [htl];omega) (by rw [htl];omega) ?_
   intro v2 w2 o1 o2
   have HO2:=hid o1
   have HG2:=hid (gr_row (gr_alloc (gr_trans HG.out HG1.out) (.cells #[.bool x.has,.int .i64 x.mn,.int .i64 x.mx] 26)) o2 (fun q hq=>(HOLT.out q hq).1))
   have HR2:=hid ((HR1.out.alloc (.cells #[.bool x.has,.int .i64 x.mn,.int .i64 x.mx] 26)).gr o2 (fun q hq=>by have:=(HOLT.out q hq).1;omega))
   obtain ⟨vo2,vc2,hve2,_,_,_⟩:=o1.shape
   have hv2l:(xs.take k ++ [x]).length=k + 1:=by rw [List.length_append,htl];rfl
   rw [hv2l] at hve2
   subst hve2
   clear o1 o2 HBX HOLT HO1 HR1 HG1
   go_wp2_with fail
   go_roundw
   case rel =>
    refine ⟨k + 1,by omega,?_,rfl,HR2.out,HG2.out⟩
    rw [HTK.out]
    exact HO2.out
   case measure=>simp [Value.lenN];omega
  ·have e0:k=n:=by omega
   subst e0
   have ht:xs.take k=xs:=List.take_of_length_le (by rw [Hl.out];exact Nat.le_refl _)
   have hd:xs.drop k=[]:=List.drop_eq_nil_of_le (by rw [Hl.out];exact Nat.le_refl _)
   have ha:=HO.out
   have hb:=HR.out
   rw [ht] at ha
   rw [hd] at hb
   have HA2:=hid ha
   have HB2:=hid hb
   clear ht ha hd hb hrx hrl
   go_wp2_with fail
   exact bodyPost_ret (v:=.slice vo k vc) (by simp [results,Tryz.results165,go_sem]) rfl ⟨_,rfl,HA2.out,HB2.out,HG.out⟩
def GotGl (K p:Nat) (w:World) (x:MGl) (tail:List Int) (e:Ending) (w':World):Prop :=
 ∃ cs,e=.returned (.agg cs.toArray) /\ Bx (fun b=>w.heap.size <= b /\ b < w'.heap.size) w' (fun w=>GlR w cs x) /\ Rdw K p w' tail /\ w.grownBy w' (some p)
set_option maxRecDepth 100000 in
set_option maxHeartbeats 2000000 in
theorem gvGl_to (g:Nat) (f:MGl -> List Int) (K p:Nat) (xs:List (MGl)) (tail:List Int) (w:World) (h:Rdw K p w (vecE f xs ++ tail)) (he:∀ args w,(callFunc g args).run Tryz.prog w=.ok (.enter g args) w) (hn:xs.length <= 100000)
    (hne:∀ x ∈ xs,0 < (f x).length)
    (HF:∀ w x t,x ∈ xs -> Rdw K p w (f x ++ t) -> Calls Tryz.prog g #[rp p] w (GotGl K p w x t)) :
    Calls Tryz.prog 167 #[rp p,.func (.func g) #[] #[]] w fun e w'=>∃ v,e=.returned v /\ OwnG 58 3 (GlR) w.heap.size w' v xs /\ Rdw K p w' tail /\ w.grownBy w' (some p):=by
 have hnum:=getNumber_to K p w (xs.length:Int) (xs.flatMap f ++ tail) (by omega) (by omega) (by unfold vecE at h;rw [List.append_assoc] at h;exact h)
 have hpw:=h.lt
 have hKp:=h.le
 have HNUM:=hid hnum
 have HFF:=hid HF
 have HNE:=hid hne
 clear h HF hne hnum
 obtain ⟨n,hnn⟩:∃ n,xs.length=n:=⟨_,rfl⟩
 rw [hnn] at HNUM hn
 have Hl:=hid hnn
 clear hnn
 go_enter Tryz.func167,Tryz.ntmps167
 go_wp2_with fail
 refine HNUM.out.mono ?_
 rintro e w0 ⟨rfl,hr0,hg0⟩
 have HR0:=hid hr0
 have HG0:=hid hg0
 clear hr0 hg0
 go_wp2_with fail
 go_loopw [6] (fun v wr=>∃ k:Nat,k <= n /\ OwnG 58 3 (GlR) w.heap.size wr v (xs.take k) /\ (v.lenN=k) /\ Rdw K p wr ((xs.drop k).flatMap f ++ tail) /\ w.grownBy wr (some p)) (fun v _=>n - v.lenN)
 case atStart=>exact ⟨0,Nat.zero_le _,OwnG.nil _ _ _ _ _,rfl,HR0.out,HG0.out⟩
 case round =>
  obtain ⟨k,hkn,ho,hv,hr,hg⟩:=hrel
  have hsz:=hg.size
  have HO:=hid ho
  have HR:=hid hr
  have HG:=hid hg
  obtain ⟨vo,vc,hve,_,_,_⟩:=ho.shape
  have htl:(xs.take k).length=k:=by rw [List.length_take,Hl.out];omega
  rw [htl] at hve
  obtain ⟨ro,rn,rc,hcell,hrx⟩:=hr.ex
  have hrl:=hrx.now.len
  clear ho hr hg hv
  subst hve
  by_cases hk:k < n
  ·obtain ⟨x,hx⟩:∃ x,xs[k]?=some x:=⟨xs[k]'(by rw [Hl.out];exact hk),List.getElem?_eq_getElem (by rw [Hl.out];exact hk)⟩
   have HX:=hid (List.mem_of_getElem? hx)
   have hfx:=HNE.out x HX.out
   have hdf:=drop_flat f xs k x hx
   have hr2:=HR.out
   rw [hdf,List.append_assoc] at hr2
   have hrn:0 < rn:=by rw [<- hrl,hdf];simp only [List.length_append];omega
   have hrn':¬ (rn:Int) <= 0:=by omega
   have htk:xs.take (k + 1)=xs.take k ++ [x]:=by rw [List.take_add_one,hx];rfl
   have HTK:=hid htk
   have hcall:=HFF.out wr x _ HX.out hr2
   have HCALL:=hid hcall
   clear hx hfx hdf hr2 hrl hrx hcall htk
   go_wp2_with fail
   refine HCALL.out.mono ?_
   rintro e w1 ⟨cs,rfl,hbx,hrd1,hg1⟩
   obtain ⟨rfl,hy1,hy2⟩:=hbx.now
   have HR1:=hid hrd1
   have HBX:=hid hbx
   have HG1:=hid hg1
   have hsz1:=hg1.size
   have HO1:=hid (HO.out.kept hg1 (fun q e=>by have h:p=q:=(by simpa using e);omega))
   have HOLT:=hid HO.out.lt
   clear hbx hrd1 hg1 hy1 hy2 hcell HCALL HO
   skip
   go_wp2_with (at_builtin;apply stopHere)
   refine hid ?_
   refine wpList_append_g rfl (.tmp 21) (.tmp 25) 27 rfl _ _ Tryz.underlying27 infoGl rfl (by decide) rfl (HO1.out.alloc (.cells #[.bool x.mu,.int .i64 x.kind,.int .i64 x.n] 58)) (by simp;omega) w1.heap.size [.bool x.mu,.int .i64 x.kind,.int .i64 x.n] rfl rfl (fun j u hu=>(Cel.new w1 [.bool x.mu,.int .i64 x.kind,.int .i64 x.n] 58).cell j u hu) (by simp [Value.oneCell']) x
    (HBX.out.to (fun b hb=>Below.heap_alloc w1 _ b hb.2) (fun b hb=>⟨by omega,by simp;omega,fun e=>by have:=(HOLT.out b e).2;omega⟩)) (by rw [htl];omega) (by rw [htl];omega) ?_
   intro v2 w2 o1 o2
   have HO2:=hid o1
   have HG2:=hid (gr_row (gr_alloc (gr_trans HG.out HG1.out) (.cells #[.bool x.mu,.int .i64 x.kind,.int .i64 x.n] 58)) o2 (fun q hq=>(HOLT.out q hq).1))
   have HR2:=hid ((HR1.out.alloc (.cells #[.bool x.mu,.int .i64 x.kind,.int .i64 x.n] 58)).gr o2 (fun q hq=>by have:=(HOLT.out q hq).1;omega))
   obtain ⟨vo2,vc2,hve2,_,_,_⟩:=o1.shape
   have hv2l:(xs.take k ++ [x]).length=k + 1:=by rw [List.length_append,htl];rfl
   rw [hv2l] at hve2
   subst hve2
   clear o1 o2 HBX HOLT HO1 HR1 HG1
   go_wp2_with fail
   go_roundw
   case rel =>
    refine ⟨k + 1,by omega,?_,rfl,HR2.out,HG2.out⟩
    rw [HTK.out]
    exact HO2.out
   case measure=>simp [Value.lenN];omega
  ·have e0:k=n:=by omega
   subst e0
   have ht:xs.take k=xs:=List.take_of_length_le (by rw [Hl.out];exact Nat.le_refl _)
   have hd:xs.drop k=[]:=List.drop_eq_nil_of_le (by rw [Hl.out];exact Nat.le_refl _)
   have ha:=HO.out
   have hb:=HR.out
   rw [ht] at ha
   rw [hd] at hb
   have HA2:=hid ha
   have HB2:=hid hb
   clear ht ha hd hb hrx hrl
   go_wp2_with fail
   exact bodyPost_ret (v:=.slice vo k vc) (by simp [results,Tryz.results167,go_sem]) rfl ⟨_,rfl,HA2.out,HB2.out,HG.out⟩
def GotEx (K p:Nat) (w:World) (x:MEx) (tail:List Int) (e:Ending) (w':World):Prop :=
 ∃ cs,e=.returned (.agg cs.toArray) /\ Bx (fun b=>w.heap.size <= b /\ b < w'.heap.size) w' (fun w=>ExR w cs x) /\ Rdw K p w' tail /\ w.grownBy w' (some p)
set_option maxRecDepth 100000 in
set_option maxHeartbeats 2000000 in
theorem gvEx_to (g:Nat) (f:MEx -> List Int) (K p:Nat) (xs:List (MEx)) (tail:List Int) (w:World) (h:Rdw K p w (vecE f xs ++ tail)) (he:∀ args w,(callFunc g args).run Tryz.prog w=.ok (.enter g args) w) (hn:xs.length <= 100000)
    (hne:∀ x ∈ xs,0 < (f x).length)
    (HF:∀ w x t,x ∈ xs -> Rdw K p w (f x ++ t) -> Calls Tryz.prog g #[rp p] w (GotEx K p w x t)) :
    Calls Tryz.prog 169 #[rp p,.func (.func g) #[] #[]] w fun e w'=>∃ v,e=.returned v /\ OwnG 60 2 (ExR) w.heap.size w' v xs /\ Rdw K p w' tail /\ w.grownBy w' (some p):=by
 have hnum:=getNumber_to K p w (xs.length:Int) (xs.flatMap f ++ tail) (by omega) (by omega) (by unfold vecE at h;rw [List.append_assoc] at h;exact h)
 have hpw:=h.lt
 have hKp:=h.le
 have HNUM:=hid hnum
 have HFF:=hid HF
 have HNE:=hid hne
 clear h HF hne hnum
 obtain ⟨n,hnn⟩:∃ n,xs.length=n:=⟨_,rfl⟩
 rw [hnn] at HNUM hn
 have Hl:=hid hnn
 clear hnn
 go_enter Tryz.func169,Tryz.ntmps169
 go_wp2_with fail
 refine HNUM.out.mono ?_
 rintro e w0 ⟨rfl,hr0,hg0⟩
 have HR0:=hid hr0
 have HG0:=hid hg0
 clear hr0 hg0
 go_wp2_with fail
 go_loopw [6] (fun v wr=>∃ k:Nat,k <= n /\ OwnG 60 2 (ExR) w.heap.size wr v (xs.take k) /\ (v.lenN=k) /\ Rdw K p wr ((xs.drop k).flatMap f ++ tail) /\ w.grownBy wr (some p)) (fun v _=>n - v.lenN)
 case atStart=>exact ⟨0,Nat.zero_le _,OwnG.nil _ _ _ _ _,rfl,HR0.out,HG0.out⟩
 case round =>
  obtain ⟨k,hkn,ho,hv,hr,hg⟩:=hrel
  have hsz:=hg.size
  have HO:=hid ho
  have HR:=hid hr
  have HG:=hid hg
  obtain ⟨vo,vc,hve,_,_,_⟩:=ho.shape
  have htl:(xs.take k).length=k:=by rw [List.length_take,Hl.out];omega
  rw [htl] at hve
  obtain ⟨ro,rn,rc,hcell,hrx⟩:=hr.ex
  have hrl:=hrx.now.len
  clear ho hr hg hv
  subst hve
  by_cases hk:k < n
  ·obtain ⟨x,hx⟩:∃ x,xs[k]?=some x:=⟨xs[k]'(by rw [Hl.out];exact hk),List.getElem?_eq_getElem (by rw [Hl.out];exact hk)⟩
   have HX:=hid (List.mem_of_getElem? hx)
   have hfx:=HNE.out x HX.out
   have hdf:=drop_flat f xs k x hx
   have hr2:=HR.out
   rw [hdf,List.append_assoc] at hr2
   have hrn:0 < rn:=by rw [<- hrl,hdf];simp only [List.length_append];omega
   have hrn':¬ (rn:Int) <= 0:=by omega
   have htk:xs.take (k + 1)=xs.take k ++ [x]:=by rw [List.take_add_one,hx];rfl
   have HTK:=hid htk
   have hcall:=HFF.out wr x _ HX.out hr2
   have HCALL:=hid hcall
   clear hx hfx hdf hr2 hrl hrx hcall htk
   go_wp2_with fail
   refine HCALL.out.mono ?_
   rintro e w1 ⟨cs,rfl,hbx,hrd1,hg1⟩
   obtain rfl:=hbx.now
   have HR1:=hid hrd1
   have HBX:=hid hbx
   have HG1:=hid hg1
   have hsz1:=hg1.size
   have HO1:=hid (HO.out.kept hg1 (fun q e=>by have h:p=q:=(by simpa using e);omega))
   have HOLT:=hid HO.out.lt
   clear hbx hrd1 hg1  hcell HCALL HO
   skip
   go_wp2_with (at_builtin;apply stopHere)
   refine hid ?_
   refine wpList_append_g rfl (.tmp 21) (.tmp 25) 28 rfl _ _ Tryz.underlying28 infoEx rfl (by decide) rfl (HO1.out.alloc (.cells #[.string x.name,.int .i64 x.fn] 60)) (by simp;omega) w1.heap.size [.string x.name,.int .i64 x.fn] rfl rfl (fun j u hu=>(Cel.new w1 [.string x.name,.int .i64 x.fn] 60).cell j u hu) (by simp [Value.oneCell']) x
    (HBX.out.to (fun b hb=>Below.heap_alloc w1 _ b hb.2) (fun b hb=>⟨by omega,by simp;omega,fun e=>by have:=(HOLT.out b e).2;omega⟩)) (by rw [htl];omega) (by rw [htl];omega) ?_
   intro v2 w2 o1 o2
   have HO2:=hid o1
   have HG2:=hid (gr_row (gr_alloc (gr_trans HG.out HG1.out) (.cells #[.string x.name,.int .i64 x.fn] 60)) o2 (fun q hq=>(HOLT.out q hq).1))
   have HR2:=hid ((HR1.out.alloc (.cells #[.string x.name,.int .i64 x.fn] 60)).gr o2 (fun q hq=>by have:=(HOLT.out q hq).1;omega))
   obtain ⟨vo2,vc2,hve2,_,_,_⟩:=o1.shape
   have hv2l:(xs.take k ++ [x]).length=k + 1:=by rw [List.length_append,htl];rfl
   rw [hv2l] at hve2
   subst hve2
   clear o1 o2 HBX HOLT HO1 HR1 HG1
   go_wp2_with fail
   go_roundw
   case rel =>
    refine ⟨k + 1,by omega,?_,rfl,HR2.out,HG2.out⟩
    rw [HTK.out]
    exact HO2.out
   case measure=>simp [Value.lenN];omega
  ·have e0:k=n:=by omega
   subst e0
   have ht:xs.take k=xs:=List.take_of_length_le (by rw [Hl.out];exact Nat.le_refl _)
   have hd:xs.drop k=[]:=List.drop_eq_nil_of_le (by rw [Hl.out];exact Nat.le_refl _)
   have ha:=HO.out
   have hb:=HR.out
   rw [ht] at ha
   rw [hd] at hb
   have HA2:=hid ha
   have HB2:=hid hb
   clear ht ha hd hb hrx hrl
   go_wp2_with fail
   exact bodyPost_ret (v:=.slice vo k vc) (by simp [results,Tryz.results169,go_sem]) rfl ⟨_,rfl,HA2.out,HB2.out,HG.out⟩
def GotEl (K p:Nat) (w:World) (x:MEl) (tail:List Int) (e:Ending) (w':World):Prop :=
 ∃ cs,e=.returned (.agg cs.toArray) /\ Bx (fun b=>w.heap.size <= b /\ b < w'.heap.size) w' (fun w=>ElR w cs x) /\ Rdw K p w' tail /\ w.grownBy w' (some p)
set_option maxRecDepth 100000 in
set_option maxHeartbeats 2000000 in
theorem gvEl_to (g:Nat) (f:MEl -> List Int) (K p:Nat) (xs:List (MEl)) (tail:List Int) (w:World) (h:Rdw K p w (vecE f xs ++ tail)) (he:∀ args w,(callFunc g args).run Tryz.prog w=.ok (.enter g args) w) (hn:xs.length <= 100000)
    (hne:∀ x ∈ xs,0 < (f x).length)
    (HF:∀ w x t,x ∈ xs -> Rdw K p w (f x ++ t) -> Calls Tryz.prog g #[rp p] w (GotEl K p w x t)) :
    Calls Tryz.prog 170 #[rp p,.func (.func g) #[] #[]] w fun e w'=>∃ v,e=.returned v /\ OwnG 67 2 (ElR) w.heap.size w' v xs /\ Rdw K p w' tail /\ w.grownBy w' (some p):=by
 have hnum:=getNumber_to K p w (xs.length:Int) (xs.flatMap f ++ tail) (by omega) (by omega) (by unfold vecE at h;rw [List.append_assoc] at h;exact h)
 have hpw:=h.lt
 have hKp:=h.le
 have HNUM:=hid hnum
 have HFF:=hid HF
 have HNE:=hid hne
 clear h HF hne hnum
 obtain ⟨n,hnn⟩:∃ n,xs.length=n:=⟨_,rfl⟩
 rw [hnn] at HNUM hn
 have Hl:=hid hnn
 clear hnn
 go_enter Tryz.func170,Tryz.ntmps170
 go_wp2_with fail
 refine HNUM.out.mono ?_
 rintro e w0 ⟨rfl,hr0,hg0⟩
 have HR0:=hid hr0
 have HG0:=hid hg0
 clear hr0 hg0
 go_wp2_with fail
 go_loopw [6] (fun v wr=>∃ k:Nat,k <= n /\ OwnG 67 2 (ElR) w.heap.size wr v (xs.take k) /\ (v.lenN=k) /\ Rdw K p wr ((xs.drop k).flatMap f ++ tail) /\ w.grownBy wr (some p)) (fun v _=>n - v.lenN)
 case atStart=>exact ⟨0,Nat.zero_le _,OwnG.nil _ _ _ _ _,rfl,HR0.out,HG0.out⟩
 case round =>
  obtain ⟨k,hkn,ho,hv,hr,hg⟩:=hrel
  have hsz:=hg.size
  have HO:=hid ho
  have HR:=hid hr
  have HG:=hid hg
  obtain ⟨vo,vc,hve,_,_,_⟩:=ho.shape
  have htl:(xs.take k).length=k:=by rw [List.length_take,Hl.out];omega
  rw [htl] at hve
  obtain ⟨ro,rn,rc,hcell,hrx⟩:=hr.ex
  have hrl:=hrx.now.len
  clear ho hr hg hv
  subst hve
  by_cases hk:k < n
  ·obtain ⟨x,hx⟩:∃ x,xs[k]?=some x:=⟨xs[k]'(by rw [Hl.out];exact hk),List.getElem?_eq_getElem (by rw [Hl.out];exact hk)⟩
   have HX:=hid (List.mem_of_getElem? hx)
   have hfx:=HNE.out x HX.out
   have hdf:=drop_flat f xs k x hx
   have hr2:=HR.out
   rw [hdf,List.append_assoc] at hr2
   have hrn:0 < rn:=by rw [<- hrl,hdf];simp only [List.length_append];omega
   have hrn':¬ (rn:Int) <= 0:=by omega
   have htk:xs.take (k + 1)=xs.take k ++ [x]:=by rw [List.take_add_one,hx];rfl
   have HTK:=hid htk
   have hcall:=HFF.out wr x _ HX.out hr2
   have HCALL:=hid hcall
   clear hx hfx hdf hr2 hrl hrx hcall htk
   go_wp2_with fail
   refine HCALL.out.mono ?_
   rintro e w1 ⟨cs,rfl,hbx,hrd1,hg1⟩
   obtain ⟨a1,n1,k1,rfl,hr1⟩:=hbx.now
   have HR1:=hid hrd1
   have HBX:=hid hbx
   have HG1:=hid hg1
   have hsz1:=hg1.size
   have HO1:=hid (HO.out.kept hg1 (fun q e=>by have h:p=q:=(by simpa using e);omega))
   have HOLT:=hid HO.out.lt
   clear hbx hrd1 hg1 hr1 hcell HCALL HO
   skip
   go_wp2_with (at_builtin;apply stopHere)
   refine hid ?_
   refine wpList_append_g rfl (.tmp 21) (.tmp 25) 29 rfl _ _ Tryz.underlying29 infoEl rfl (by decide) rfl (HO1.out.alloc (.cells #[.int .i64 x.off,.slice a1 n1 k1] 67)) (by simp;omega) w1.heap.size [.int .i64 x.off,.slice a1 n1 k1] rfl rfl (fun j u hu=>(Cel.new w1 [.int .i64 x.off,.slice a1 n1 k1] 67).cell j u hu) (by simp [Value.oneCell']) x
    (HBX.out.to (fun b hb=>Below.heap_alloc w1 _ b hb.2) (fun b hb=>⟨by omega,by simp;omega,fun e=>by have:=(HOLT.out b e).2;omega⟩)) (by rw [htl];omega) (by rw [htl];omega) ?_
   intro v2 w2 o1 o2
   have HO2:=hid o1
   have HG2:=hid (gr_row (gr_alloc (gr_trans HG.out HG1.out) (.cells #[.int .i64 x.off,.slice a1 n1 k1] 67)) o2 (fun q hq=>(HOLT.out q hq).1))
   have HR2:=hid ((HR1.out.alloc (.cells #[.int .i64 x.off,.slice a1 n1 k1] 67)).gr o2 (fun q hq=>by have:=(HOLT.out q hq).1;omega))
   obtain ⟨vo2,vc2,hve2,_,_,_⟩:=o1.shape
   have hv2l:(xs.take k ++ [x]).length=k + 1:=by rw [List.length_append,htl];rfl
   rw [hv2l] at hve2
   subst hve2
   clear o1 o2 HBX HOLT HO1 HR1 HG1
   go_wp2_with fail
   go_roundw
   case rel =>
    refine ⟨k + 1,by omega,?_,rfl,HR2.out,HG2.out⟩
    rw [HTK.out]
    exact HO2.out
   case measure=>simp [Value.lenN];omega
  ·have e0:k=n:=by omega
   subst e0
   have ht:xs.take k=xs:=List.take_of_length_le (by rw [Hl.out];exact Nat.le_refl _)
   have hd:xs.drop k=[]:=List.drop_eq_nil_of_le (by rw [Hl.out];exact Nat.le_refl _)
   have ha:=HO.out
   have hb:=HR.out
   rw [ht] at ha
   rw [hd] at hb
   have HA2:=hid ha
   have HB2:=hid hb
   clear ht ha hd hb hrx hrl
   go_wp2_with fail
   exact bodyPost_ret (v:=.slice vo k vc) (by simp [results,Tryz.results170,go_sem]) rfl ⟨_,rfl,HA2.out,HB2.out,HG.out⟩
def GotCo (K p:Nat) (w:World) (x:MCo) (tail:List Int) (e:Ending) (w':World):Prop :=
 ∃ cs,e=.returned (.agg cs.toArray) /\ Bx (fun b=>w.heap.size <= b /\ b < w'.heap.size) w' (fun w=>CoR w cs x) /\ Rdw K p w' tail /\ w.grownBy w' (some p)
set_option maxRecDepth 100000 in
set_option maxHeartbeats 2000000 in
theorem gvCo_to (g:Nat) (f:MCo -> List Int) (K p:Nat) (xs:List (MCo)) (tail:List Int) (w:World) (h:Rdw K p w (vecE f xs ++ tail)) (he:∀ args w,(callFunc g args).run Tryz.prog w=.ok (.enter g args) w) (hn:xs.length <= 100000)
    (hne:∀ x ∈ xs,0 < (f x).length)
    (HF:∀ w x t,x ∈ xs -> Rdw K p w (f x ++ t) -> Calls Tryz.prog g #[rp p] w (GotCo K p w x t)) :
    Calls Tryz.prog 172 #[rp p,.func (.func g) #[] #[]] w fun e w'=>∃ v,e=.returned v /\ OwnG 49 2 (CoR) w.heap.size w' v xs /\ Rdw K p w' tail /\ w.grownBy w' (some p):=by
 have hnum:=getNumber_to K p w (xs.length:Int) (xs.flatMap f ++ tail) (by omega) (by omega) (by unfold vecE at h;rw [List.append_assoc] at h;exact h)
 have hpw:=h.lt
 have hKp:=h.le
 have HNUM:=hid hnum
 have HFF:=hid HF
 have HNE:=hid hne
 clear h HF hne hnum
 obtain ⟨n,hnn⟩:∃ n,xs.length=n:=⟨_,rfl⟩
 rw [hnn] at HNUM hn
 have Hl:=hid hnn
 clear hnn
 go_enter Tryz.func172,Tryz.ntmps172
 go_wp2_with fail
 refine HNUM.out.mono ?_
 rintro e w0 ⟨rfl,hr0,hg0⟩
 have HR0:=hid hr0
 have HG0:=hid hg0
 clear hr0 hg0
 go_wp2_with fail
 go_loopw [6] (fun v wr=>∃ k:Nat,k <= n /\ OwnG 49 2 (CoR) w.heap.size wr v (xs.take k) /\ (v.lenN=k) /\ Rdw K p wr ((xs.drop k).flatMap f ++ tail) /\ w.grownBy wr (some p)) (fun v _=>n - v.lenN)
 case atStart=>exact ⟨0,Nat.zero_le _,OwnG.nil _ _ _ _ _,rfl,HR0.out,HG0.out⟩
 case round =>
  obtain ⟨k,hkn,ho,hv,hr,hg⟩:=hrel
  have hsz:=hg.size
  have HO:=hid ho
  have HR:=hid hr
  have HG:=hid hg
  obtain ⟨vo,vc,hve,_,_,_⟩:=ho.shape
  have htl:(xs.take k).length=k:=by rw [List.length_take,Hl.out];omega
  rw [htl] at hve
  obtain ⟨ro,rn,rc,hcell,hrx⟩:=hr.ex
  have hrl:=hrx.now.len
  clear ho hr hg hv
  subst hve
  by_cases hk:k < n
  ·obtain ⟨x,hx⟩:∃ x,xs[k]?=some x:=⟨xs[k]'(by rw [Hl.out];exact hk),List.getElem?_eq_getElem (by rw [Hl.out];exact hk)⟩
   have HX:=hid (List.mem_of_getElem? hx)
   have hfx:=HNE.out x HX.out
   have hdf:=drop_flat f xs k x hx
   have hr2:=HR.out
   rw [hdf,List.append_assoc] at hr2
   have hrn:0 < rn:=by rw [<- hrl,hdf];simp only [List.length_append];omega
   have hrn':¬ (rn:Int) <= 0:=by omega
   have htk:xs.take (k + 1)=xs.take k ++ [x]:=by rw [List.take_add_one,hx];rfl
   have HTK:=hid htk
   have hcall:=HFF.out wr x _ HX.out hr2
   have HCALL:=hid hcall
   clear hx hfx hdf hr2 hrl hrx hcall htk
   go_wp2_with fail
   refine HCALL.out.mono ?_
   rintro e w1 ⟨cs,rfl,hbx,hrd1,hg1⟩
   obtain ⟨a1,n1,k1,a2,n2,k2,rfl,hr1,hr2⟩:=hbx.now
   have HR1:=hid hrd1
   have HBX:=hid hbx
   have HG1:=hid hg1
   have hsz1:=hg1.size
   have HO1:=hid (HO.out.kept hg1 (fun q e=>by have h:p=q:=(by simpa using e);omega))
   have HOLT:=hid HO.out.lt
   clear hbx hrd1 hg1 hr1 hr2 hcell HCALL HO
   skip
   go_wp2_with (at_builtin;apply stopHere)
   refine hid ?_
   refine wpList_append_g rfl (.tmp 21) (.tmp 25) 30 rfl _ _ Tryz.underlying30 infoCo rfl (by decide) rfl (HO1.out.alloc (.cells #[.slice a1 n1 k1,.slice a2 n2 k2] 49)) (by simp;omega) w1.heap.size [.slice a1 n1 k1,.slice a2 n2 k2] rfl rfl (fun j u hu=>(Cel.new w1 [.slice a1 n1 k1,.slice a2 n2 k2] 49).cell j u hu) (by simp [Value.oneCell']) x
    (HBX.out.to (fun b hb=>Below.heap_alloc w1 _ b hb.2) (fun b hb=>⟨by omega,by simp;omega,fun e=>by have:=(HOLT.out b e).2;omega⟩)) (by rw [htl];omega) (by rw [htl];omega) ?_
   intro v2 w2 o1 o2
   have HO2:=hid o1
   have HG2:=hid (gr_row (gr_alloc (gr_trans HG.out HG1.out) (.cells #[.slice a1 n1 k1,.slice a2 n2 k2] 49)) o2 (fun q hq=>(HOLT.out q hq).1))
   have HR2:=hid ((HR1.out.alloc (.cells #[.slice a1 n1 k1,.slice a2 n2 k2] 49)).gr o2 (fun q hq=>by have:=(HOLT.out q hq).1;omega))
   obtain ⟨vo2,vc2,hve2,_,_,_⟩:=o1.shape
   have hv2l:(xs.take k ++ [x]).length=k + 1:=by rw [List.length_append,htl];rfl
   rw [hv2l] at hve2
   subst hve2
   clear o1 o2 HBX HOLT HO1 HR1 HG1
   go_wp2_with fail
   go_roundw
   case rel =>
    refine ⟨k + 1,by omega,?_,rfl,HR2.out,HG2.out⟩
    rw [HTK.out]
    exact HO2.out
   case measure=>simp [Value.lenN];omega
  ·have e0:k=n:=by omega
   subst e0
   have ht:xs.take k=xs:=List.take_of_length_le (by rw [Hl.out];exact Nat.le_refl _)
   have hd:xs.drop k=[]:=List.drop_eq_nil_of_le (by rw [Hl.out];exact Nat.le_refl _)
   have ha:=HO.out
   have hb:=HR.out
   rw [ht] at ha
   rw [hd] at hb
   have HA2:=hid ha
   have HB2:=hid hb
   clear ht ha hd hb hrx hrl
   go_wp2_with fail
   exact bodyPost_ret (v:=.slice vo k vc) (by simp [results,Tryz.results172,go_sem]) rfl ⟨_,rfl,HA2.out,HB2.out,HG.out⟩
def GotDa (K p:Nat) (w:World) (x:MDa) (tail:List Int) (e:Ending) (w':World):Prop :=
 ∃ cs,e=.returned (.agg cs.toArray) /\ Bx (fun b=>w.heap.size <= b /\ b < w'.heap.size) w' (fun w=>DaR w cs x) /\ Rdw K p w' tail /\ w.grownBy w' (some p)
set_option maxRecDepth 100000 in
set_option maxHeartbeats 2000000 in
theorem gvDa_to (g:Nat) (f:MDa -> List Int) (K p:Nat) (xs:List (MDa)) (tail:List Int) (w:World) (h:Rdw K p w (vecE f xs ++ tail)) (he:∀ args w,(callFunc g args).run Tryz.prog w=.ok (.enter g args) w) (hn:xs.length <= 100000)
    (hne:∀ x ∈ xs,0 < (f x).length)
    (HF:∀ w x t,x ∈ xs -> Rdw K p w (f x ++ t) -> Calls Tryz.prog g #[rp p] w (GotDa K p w x t)) :
    Calls Tryz.prog 175 #[rp p,.func (.func g) #[] #[]] w fun e w'=>∃ v,e=.returned v /\ OwnG 44 2 (DaR) w.heap.size w' v xs /\ Rdw K p w' tail /\ w.grownBy w' (some p):=by
 have hnum:=getNumber_to K p w (xs.length:Int) (xs.flatMap f ++ tail) (by omega) (by omega) (by unfold vecE at h;rw [List.append_assoc] at h;exact h)
 have hpw:=h.lt
 have hKp:=h.le
 have HNUM:=hid hnum
 have HFF:=hid HF
 have HNE:=hid hne
 clear h HF hne hnum
 obtain ⟨n,hnn⟩:∃ n,xs.length=n:=⟨_,rfl⟩
 rw [hnn] at HNUM hn
 have Hl:=hid hnn
 clear hnn
 go_enter Tryz.func175,Tryz.ntmps175
 go_wp2_with fail
 refine HNUM.out.mono ?_
 rintro e w0 ⟨rfl,hr0,hg0⟩
 have HR0:=hid hr0
 have HG0:=hid hg0
 clear hr0 hg0
 go_wp2_with fail
 go_loopw [6] (fun v wr=>∃ k:Nat,k <= n /\ OwnG 44 2 (DaR) w.heap.size wr v (xs.take k) /\ (v.lenN=k) /\ Rdw K p wr ((xs.drop k).flatMap f ++ tail) /\ w.grownBy wr (some p)) (fun v _=>n - v.lenN)
 case atStart=>exact ⟨0,Nat.zero_le _,OwnG.nil _ _ _ _ _,rfl,HR0.out,HG0.out⟩
 case round =>
  obtain ⟨k,hkn,ho,hv,hr,hg⟩:=hrel
  have hsz:=hg.size
  have HO:=hid ho
  have HR:=hid hr
  have HG:=hid hg
  obtain ⟨vo,vc,hve,_,_,_⟩:=ho.shape
  have htl:(xs.take k).length=k:=by rw [List.length_take,Hl.out];omega
  rw [htl] at hve
  obtain ⟨ro,rn,rc,hcell,hrx⟩:=hr.ex
  have hrl:=hrx.now.len
  clear ho hr hg hv
  subst hve
  by_cases hk:k < n
  ·obtain ⟨x,hx⟩:∃ x,xs[k]?=some x:=⟨xs[k]'(by rw [Hl.out];exact hk),List.getElem?_eq_getElem (by rw [Hl.out];exact hk)⟩
   have HX:=hid (List.mem_of_getElem? hx)
   have hfx:=HNE.out x HX.out
   have hdf:=drop_flat f xs k x hx
   have hr2:=HR.out
   rw [hdf,List.append_assoc] at hr2
   have hrn:0 < rn:=by rw [<- hrl,hdf];simp only [List.length_append];omega
   have hrn':¬ (rn:Int) <= 0:=by omega
   have htk:xs.take (k + 1)=xs.take k ++ [x]:=by rw [List.take_add_one,hx];rfl
   have HTK:=hid htk
   have hcall:=HFF.out wr x _ HX.out hr2
   have HCALL:=hid hcall
   clear hx hfx hdf hr2 hrl hrx hcall htk
   go_wp2_with fail
   refine HCALL.out.mono ?_
   rintro e w1 ⟨cs,rfl,hbx,hrd1,hg1⟩
   obtain ⟨a1,n1,k1,rfl,hr1⟩:=hbx.now
   have HR1:=hid hrd1
   have HBX:=hid hbx
   have HG1:=hid hg1
   have hsz1:=hg1.size
   have HO1:=hid (HO.out.kept hg1 (fun q e=>by have h:p=q:=(by simpa using e);omega))
   have HOLT:=hid HO.out.lt
   clear hbx hrd1 hg1 hr1 hcell HCALL HO
   skip
   go_wp2_with (at_builtin;apply stopHere)
   refine hid ?_
   refine wpList_append_g rfl (.tmp 21) (.tmp 25) 31 rfl _ _ Tryz.underlying31 infoDa rfl (by decide) rfl (HO1.out.alloc (.cells #[.int .i64 x.off,.slice a1 n1 k1] 44)) (by simp;omega) w1.heap.size [.int .i64 x.off,.slice a1 n1 k1] rfl rfl (fun j u hu=>(Cel.new w1 [.int .i64 x.off,.slice a1 n1 k1] 44).cell j u hu) (by simp [Value.oneCell']) x
    (HBX.out.to (fun b hb=>Below.heap_alloc w1 _ b hb.2) (fun b hb=>⟨by omega,by simp;omega,fun e=>by have:=(HOLT.out b e).2;omega⟩)) (by rw [htl];omega) (by rw [htl];omega) ?_
   intro v2 w2 o1 o2
   have HO2:=hid o1
   have HG2:=hid (gr_row (gr_alloc (gr_trans HG.out HG1.out) (.cells #[.int .i64 x.off,.slice a1 n1 k1] 44)) o2 (fun q hq=>(HOLT.out q hq).1))
   have HR2:=hid ((HR1.out.alloc (.cells #[.int .i64 x.off,.slice a1 n1 k1] 44)).gr o2 (fun q hq=>by have:=(HOLT.out q hq).1;omega))
   obtain ⟨vo2,vc2,hve2,_,_,_⟩:=o1.shape
   have hv2l:(xs.take k ++ [x]).length=k + 1:=by rw [List.length_append,htl];rfl
   rw [hv2l] at hve2
   subst hve2
   clear o1 o2 HBX HOLT HO1 HR1 HG1
   go_wp2_with fail
   go_roundw
   case rel =>
    refine ⟨k + 1,by omega,?_,rfl,HR2.out,HG2.out⟩
    rw [HTK.out]
    exact HO2.out
   case measure=>simp [Value.lenN];omega
  ·have e0:k=n:=by omega
   subst e0
   have ht:xs.take k=xs:=List.take_of_length_le (by rw [Hl.out];exact Nat.le_refl _)
   have hd:xs.drop k=[]:=List.drop_eq_nil_of_le (by rw [Hl.out];exact Nat.le_refl _)
   have ha:=HO.out
   have hb:=HR.out
   rw [ht] at ha
   rw [hd] at hb
   have HA2:=hid ha
   have HB2:=hid hb
   clear ht ha hd hb hrx hrl
   go_wp2_with fail
   exact bodyPost_ret (v:=.slice vo k vc) (by simp [results,Tryz.results175,go_sem]) rfl ⟨_,rfl,HA2.out,HB2.out,HG.out⟩
def GotRu (K p:Nat) (w:World) (x:Int × Int) (tail:List Int) (e:Ending) (w':World):Prop :=
 ∃ cs,e=.returned (.agg cs.toArray) /\ Bx (fun b=>w.heap.size <= b /\ b < w'.heap.size) w' (fun w=>RuR w cs x) /\ Rdw K p w' tail /\ w.grownBy w' (some p)
set_option maxRecDepth 100000 in
set_option maxHeartbeats 2000000 in
theorem gvRu_to (g:Nat) (f:Int × Int -> List Int) (K p:Nat) (xs:List (Int × Int)) (tail:List Int) (w:World) (h:Rdw K p w (vecE f xs ++ tail)) (he:∀ args w,(callFunc g args).run Tryz.prog w=.ok (.enter g args) w) (hn:xs.length <= 100000)
    (hne:∀ x ∈ xs,0 < (f x).length)
    (HF:∀ w x t,x ∈ xs -> Rdw K p w (f x ++ t) -> Calls Tryz.prog g #[rp p] w (GotRu K p w x t)) :
    Calls Tryz.prog 191 #[rp p,.func (.func g) #[] #[]] w fun e w'=>∃ v,e=.returned v /\ OwnG 184 2 (RuR) w.heap.size w' v xs /\ Rdw K p w' tail /\ w.grownBy w' (some p):=by
 have hnum:=getNumber_to K p w (xs.length:Int) (xs.flatMap f ++ tail) (by omega) (by omega) (by unfold vecE at h;rw [List.append_assoc] at h;exact h)
 have hpw:=h.lt
 have hKp:=h.le
 have HNUM:=hid hnum
 have HFF:=hid HF
 have HNE:=hid hne
 clear h HF hne hnum
 obtain ⟨n,hnn⟩:∃ n,xs.length=n:=⟨_,rfl⟩
 rw [hnn] at HNUM hn
 have Hl:=hid hnn
 clear hnn
 go_enter Tryz.func191,Tryz.ntmps191
 go_wp2_with fail
 refine HNUM.out.mono ?_
 rintro e w0 ⟨rfl,hr0,hg0⟩
 have HR0:=hid hr0
 have HG0:=hid hg0
 clear hr0 hg0
 go_wp2_with fail
 go_loopw [6] (fun v wr=>∃ k:Nat,k <= n /\ OwnG 184 2 (RuR) w.heap.size wr v (xs.take k) /\ (v.lenN=k) /\ Rdw K p wr ((xs.drop k).flatMap f ++ tail) /\ w.grownBy wr (some p)) (fun v _=>n - v.lenN)
 case atStart=>exact ⟨0,Nat.zero_le _,OwnG.nil _ _ _ _ _,rfl,HR0.out,HG0.out⟩
 case round =>
  obtain ⟨k,hkn,ho,hv,hr,hg⟩:=hrel
  have hsz:=hg.size
  have HO:=hid ho
  have HR:=hid hr
  have HG:=hid hg
  obtain ⟨vo,vc,hve,_,_,_⟩:=ho.shape
  have htl:(xs.take k).length=k:=by rw [List.length_take,Hl.out];omega
  rw [htl] at hve
  obtain ⟨ro,rn,rc,hcell,hrx⟩:=hr.ex
  have hrl:=hrx.now.len
  clear ho hr hg hv
  subst hve
  by_cases hk:k < n
  ·obtain ⟨x,hx⟩:∃ x,xs[k]?=some x:=⟨xs[k]'(by rw [Hl.out];exact hk),List.getElem?_eq_getElem (by rw [Hl.out];exact hk)⟩
   have HX:=hid (List.mem_of_getElem? hx)
   have hfx:=HNE.out x HX.out
   have hdf:=drop_flat f xs k x hx
   have hr2:=HR.out
   rw [hdf,List.append_assoc] at hr2
   have hrn:0 < rn:=by rw [<- hrl,hdf];simp only [List.length_append];omega
   have hrn':¬ (rn:Int) <= 0:=by omega
   have htk:xs.take (k + 1)=xs.take k ++ [x]:=by rw [List.take_add_one,hx];rfl
   have HTK:=hid htk
   have hcall:=HFF.out wr x _ HX.out hr2
   have HCALL:=hid hcall
   clear hx hfx hdf hr2 hrl hrx hcall htk
   go_wp2_with fail
   refine HCALL.out.mono ?_
   rintro e w1 ⟨cs,rfl,hbx,hrd1,hg1⟩
   obtain rfl:=hbx.now
   have HR1:=hid hrd1
   have HBX:=hid hbx
   have HG1:=hid hg1
   have hsz1:=hg1.size
   have HO1:=hid (HO.out.kept hg1 (fun q e=>by have h:p=q:=(by simpa using e);omega))
   have HOLT:=hid HO.out.lt
   clear hbx hrd1 hg1  hcell HCALL HO
   skip
   go_wp2_with (at_builtin;apply stopHere)
   refine hid ?_
   refine wpList_append_g rfl (.tmp 21) (.tmp 25) 185 rfl _ _ Tryz.underlying185 infoRu rfl (by decide) rfl (HO1.out.alloc (.cells #[.int .i64 x.1,.int .i64 x.2] 184)) (by simp;omega) w1.heap.size [.int .i64 x.1,.int .i64 x.2] rfl rfl (fun j u hu=>(Cel.new w1 [.int .i64 x.1,.int .i64 x.2] 184).cell j u hu) (by simp [Value.oneCell']) x
    (HBX.out.to (fun b hb=>Below.heap_alloc w1 _ b hb.2) (fun b hb=>⟨by omega,by simp;omega,fun e=>by have:=(HOLT.out b e).2;omega⟩)) (by rw [htl];omega) (by rw [htl];omega) ?_
   intro v2 w2 o1 o2
   have HO2:=hid o1
   have HG2:=hid (gr_row (gr_alloc (gr_trans HG.out HG1.out) (.cells #[.int .i64 x.1,.int .i64 x.2] 184)) o2 (fun q hq=>(HOLT.out q hq).1))
   have HR2:=hid ((HR1.out.alloc (.cells #[.int .i64 x.1,.int .i64 x.2] 184)).gr o2 (fun q hq=>by have:=(HOLT.out q hq).1;omega))
   obtain ⟨vo2,vc2,hve2,_,_,_⟩:=o1.shape
   have hv2l:(xs.take k ++ [x]).length=k + 1:=by rw [List.length_append,htl];rfl
   rw [hv2l] at hve2
   subst hve2
   clear o1 o2 HBX HOLT HO1 HR1 HG1
   go_wp2_with fail
   go_roundw
   case rel =>
    refine ⟨k + 1,by omega,?_,rfl,HR2.out,HG2.out⟩
    rw [HTK.out]
    exact HO2.out
   case measure=>simp [Value.lenN];omega
  ·have e0:k=n:=by omega
   subst e0
   have ht:xs.take k=xs:=List.take_of_length_le (by rw [Hl.out];exact Nat.le_refl _)
   have hd:xs.drop k=[]:=List.drop_eq_nil_of_le (by rw [Hl.out];exact Nat.le_refl _)
   have ha:=HO.out
   have hb:=HR.out
   rw [ht] at ha
   rw [hd] at hb
   have HA2:=hid ha
   have HB2:=hid hb
   clear ht ha hd hb hrx hrl
   go_wp2_with fail
   exact bodyPost_ret (v:=.slice vo k vc) (by simp [results,Tryz.results191,go_sem]) rfl ⟨_,rfl,HA2.out,HB2.out,HG.out⟩
open Go.RowKit
theorem OwnG.bxs {α:Type} {E:TypeId} {s B B0:Nat} {R:World -> List Value -> α -> Prop} {w:World} {ao:Option Addr} {n cap:Nat} {xs:List α} (h:OwnG E s R B w (.slice ao n cap) xs) (hB:B0 <= B):Bx (fun b=>B0 <= b /\ b < w.heap.size) w fun w=>RdG s R w ao n cap xs:=by
 obtain ⟨ao',cap',e,hb⟩:=h.bx
 simp only [Value.slice.injEq] at e
 obtain ⟨rfl,rfl,rfl⟩:=e
 exact hb.more fun b hb=>⟨by omega,hb.2⟩
theorem Own.g {E:TypeId} {k:IntKind} {B:Nat} {w:World} {v:Value} {xs:List Int} (h:Own E k B w v xs):OwnG E 1 (IR k) B w v xs:=by
 refine ⟨xs.map fun x=>[Value.int k x],by simp,⟨?_,?_⟩,fun i cs x h1 h2=>Bx.pure ?_⟩
 ·have:=h.row
  have e:(xs.map fun x=>[Value.int k x]).flatten=xs.map (Value.int k):=by
   clear this h
   induction xs with
   | nil=>rfl
   | cons x r ih=>simp [ih]
  rw [e,List.length_map]
  exact this
 ·intro r hr
  obtain ⟨x,_,rfl⟩:=List.mem_map.1 hr
  rfl
 ·rw [List.getElem?_map,h2] at h1
  simp at h1
  exact ⟨h1.symm,h.wf x (List.mem_of_getElem? h2)⟩
theorem en_getKind:∀ args w,(callFunc 160 args).run Tryz.prog w=.ok (.enter 160 args) w:=enters_of Tryz.func160 (by kernel_rfl) rfl
theorem en_getNumber:∀ args w,(callFunc 108 args).run Tryz.prog w=.ok (.enter 108 args) w:=enters_of Tryz.func108 (by kernel_rfl) rfl
theorem num_pos (n:Int):0 < (numE n).length:=by
 have:=encU_ne 9 n
 unfold numE
 exact List.length_pos_iff.2 this
theorem gvKinds_to (K p:Nat) (xs tail:List Int) (w:World) (h:Rdw K p w (vecE kE xs ++ tail)) (hn:xs.length <= 100000) (hm:xs.all mayK=true) :
    Calls Tryz.prog 159 #[rp p,.func (.func 160) #[] #[]] w fun e w'=>∃ v,e=.returned v /\ OwnG 3 1 (IR .i64) w.heap.size w' v xs /\ Rdw K p w' tail /\ w.grownBy w' (some p) :=
 gvI_to _ kE K p xs tail w h en_getKind hn (fun _ _=>by simp [kE]) fun w x t hx hr=>by
  have hk:=List.all_eq_true.1 hm x hx
  refine (getKind_to K p w x t hk hr).mono ?_
  rintro e w' ⟨rfl,hr',hg⟩
  refine ⟨[.int .i64 x],rfl,Bx.pure ⟨rfl,WalkArith.wf_i64 ?_⟩,hr',hg⟩
  simp [mayK] at hk
  omega
theorem gvNums_to (K p:Nat) (xs tail:List Int) (w:World) (h:Rdw K p w (vecE numE xs ++ tail)) (hn:xs.length <= 100000) (hm:xs.all mayNu=true) :
    Calls Tryz.prog 159 #[rp p,.func (.func 108) #[] #[]] w fun e w'=>∃ v,e=.returned v /\ OwnG 3 1 (IR .i64) w.heap.size w' v xs /\ Rdw K p w' tail /\ w.grownBy w' (some p) :=
 gvI_to _ numE K p xs tail w h en_getNumber hn (fun x _=>num_pos x) fun w x t hx hr=>by
  have hk:=List.all_eq_true.1 hm x hx
  simp [mayNu] at hk
  refine (getNumber_to K p w x t hk.1 (by omega) hr).mono ?_
  rintro e w' ⟨rfl,hr',hg⟩
  exact ⟨[.int .i64 x],rfl,Bx.pure ⟨rfl,WalkArith.wf_i64 (by omega)⟩,hr',hg⟩
set_option maxRecDepth 100000 in
theorem getName_to (K p:Nat) (s:ByteArray) (tail:List Int) (w:World) (h:Rdw K p w (nmE s ++ tail)) (hs:s.size <= 1000) :
    Calls Tryz.prog 162 #[rp p] w fun e w'=>e=.returned (.string s) /\ Rdw K p w' tail /\ w.grownBy w' (some p):=by
 have hnum:=getNumber_to K p w ((nb s).length:Int) (nb s ++ tail) (by omega) (by rw [nb_len];omega) (by unfold nmE szE at h;rw [List.append_assoc] at h;exact h)
 have HN:=hid hnum
 obtain ⟨n,hn⟩:∃ n,(nb s).length=n:=⟨_,rfl⟩
 rw [hn] at HN
 have HNN:=hid hn
 clear hnum h hn
 go_enter Tryz.func162,Tryz.ntmps162
 go_wp2_with fail
 refine HN.out.mono ?_
 rintro e w1 ⟨rfl,hr,hg⟩
 have ht:=wtake_to K p w1 _ n hr (by rw [<- HNN.out];simp) (n:Int) rfl
 have e1:(nb s ++ tail).take n=nb s:=by rw [<- HNN.out];simp
 have e2:(nb s ++ tail).drop n=tail:=by rw [<- HNN.out];simp
 rw [e1,e2] at ht
 have HT:=hid ht
 have HG:=hid hg
 clear hr hg ht e1 e2 HN
 go_wp2_with fail
 refine HT.out.mono ?_
 rintro e w2 ⟨ao,cap,rfl,hx,hr,hg⟩
 have hcv:=conv_str (P:=Tryz.prog) hx.now 37 9 5 Tryz.underlying37 Tryz.underlying5 Tryz.underlying9
 rw [nb_str] at hcv
 have HR:=hid hr
 have HG2:=hid (gr_trans HG.out hg)
 clear hx hr hg HT
 go_wp2_with fail
 go_ret
 exact ⟨rfl,HR.out,HG2.out⟩
set_option maxRecDepth 100000 in
set_option maxHeartbeats 1000000 in
theorem getConstant_to (K p:Nat) (k n:Int) (tail:List Int) (w:World) (h:Rdw K p w (cstE k n ++ tail)) (hk:okVal k n=true) (hn:-9223372036854775808 <= n /\ n <= 9223372036854775807) :
    Calls Tryz.prog 168 #[rp p] w fun e w'=>e=.returned (.agg #[.int .i64 k,.int .i64 n]) /\ Rdw K p w' tail /\ w.grownBy w' (some p):=by
 have hm:=may_cst k n hk
 unfold cstE at h
 obtain ⟨o,ho⟩:∃ o:Int,(if k=2 then 66 else 65)=o:=⟨_,rfl⟩
 rw [ho,List.append_assoc] at h
 rw [ho] at hm
 have h0:=h.alloc (.cells #[.int .i64 0,.int .i64 0] 56)
 obtain ⟨ao,rn,cap,hcell,hx⟩:=h0.ex
 have hgi:=getI_enc o n 0 [] ([11] ++ tail) hm hn
 have hget:=get_to ao rn cap _ _ hx.now _ _ _ hgi
 obtain ⟨m,hmm⟩:∃ m,(encI o n 0 []).length=m:=⟨_,rfl⟩
 rw [hmm] at hget
 have HGET:=hid hget
 have HR0:=hid h0
 have HA0:=hid (Cel.new w [.int .i64 0,.int .i64 0] 56)
 have HG0:=hid (gr_alloc (gr_refl w (some p)) (.cells #[.int .i64 0,.int .i64 0] 56))
 have HMM:=hid hmm
 have hKp:=h.le
 have hpw:=h.lt
 have hko:(k=1 /\ o=65) ∨ (k=2 /\ o=66):=by
  unfold okVal at hk
  by_cases h1:k=1
  ·subst h1;simp at ho;exact .inl ⟨rfl,ho.symm⟩
  ·rw [if_neg h1] at hk
   have h2:k=2:=by simpa using hk
   subst h2;simp at ho;exact .inr ⟨rfl,ho.symm⟩
 clear hget hgi h0 hx hmm h hm ho hk
 go_enter Tryz.func168,Tryz.ntmps168
 go_wp2_with fail
 refine HGET.out.mono ?_
 rintro e w1 ⟨lo,ln,lc,rfl,_,hb⟩
 have HR1:=hid ((HR0.out.below hb (Nat.le_refl _)).alloc (.cells #[.int .i64 o,.int .i64 n,.int .i64 0,.slice lo ln lc] 51))
 have HA1:=hid ((HA0.out.below (Nat.succ_pos _) hb).below (Nat.succ_pos _) (Bl.alloc (Bl.refl _) (.cells #[.int .i64 o,.int .i64 n,.int .i64 0,.slice lo ln lc] 51)))
 have hs0:=hb.size
 have HG1:=hid (gr_alloc (gr_trans HG0.out (gr_below hb (Nat.le_refl _) (some p))) (.cells #[.int .i64 o,.int .i64 n,.int .i64 0,.slice lo ln lc] 51))
 have HX1:=hid (Cel.new w1 [.int .i64 o,.int .i64 n,.int .i64 0,.slice lo ln lc] 51)
 have hw1:w.heap.size < w1.heap.size:=by simp at hs0;omega
 have hp1:=wpass_to K p _ _ m HR1.out (by rw [<- HMM.out];simp) (m:Int) rfl
 have e2:(encI o n 0 [] ++ ([11] ++ tail)).drop m=11 :: tail:=by rw [<- HMM.out];simp
 rw [e2] at hp1
 have HP1:=hid hp1
 clear hb hs0 hp1 e2 HGET HR0 HA0 HG0 hcell
 simp only
 go_wp2_with fail
 refine HP1.out.mono ?_
 rintro e w2 ⟨rfl,hr,hg⟩
 have hp2:=wpass_to K p w2 _ 1 hr (by simp) 1 rfl
 simp only [List.drop_succ_cons,List.drop_zero] at hp2
 have HP2:=hid hp2
 have HA2:=hid (HA1.out.grown (Nat.succ_pos _) hg (by simp;omega))
 have HX2:=hid (HX1.out.grown (Nat.succ_pos _) hg (by simp;omega))
 have HG2:=hid (gr_trans HG1.out hg)
 clear hr hg hp2 HP1 HA1 HX1 HG1 HR1
 go_wp2_with fail
 refine HP2.out.mono ?_
 rintro e w3 ⟨rfl,hr,hg⟩
 have HA3:=hid (HA2.out.grown (Nat.succ_pos _) hg (by simp;omega))
 have HX3:=hid (HX2.out.grown (Nat.succ_pos _) hg (by simp;omega))
 have HG3:=hid (gr_trans HG2.out hg)
 have HR3:=hid hr
 have x0:=HX3.out.cell 0 _ rfl
 have x1:=HX3.out.cell 1 _ rfl
 have a0:=HA3.out.cell 0 _ rfl
 have a1:=HA3.out.cell 1 _ rfl
 have fa0:=HA3.out.fro 0 _ rfl
 have fa1:=HA3.out.fro 1 _ rfl
 have hgA:w3.grownBy ((w3.setCell ⟨w.heap.size,0,none⟩ (.int .i64 k)).setCell ⟨w.heap.size,1,none⟩ (.int .i64 n)) (some w.heap.size):=gr_set (gr_set (gr_refl _ _) 0 _) 1 _
 have HR4:=hid (HR3.out.gr hgA (fun q e=>by have h:w.heap.size=q:=(by simpa using e);omega))
 have HG4:=hid (gr_row HG3.out hgA (fun q e=>by have h:w.heap.size=q:=(by simpa using e);omega))
 clear hr hg HP2 HA2 HX2 HG2 hgA HR3 HG3 HA3 HX3
 rcases hko with ⟨rfl,rfl⟩ | ⟨rfl,rfl⟩
 ·go_wp2_with fail
  exact bodyPost_ret (v:=.agg #[.int .i64 1,.int .i64 n]) (by simp [results,Tryz.results168,go_sem,a0,a1]) rfl ⟨rfl,HR4.out,HG4.out⟩
 ·go_wp2_with fail
  exact bodyPost_ret (v:=.agg #[.int .i64 2,.int .i64 n]) (by simp [results,Tryz.results168,go_sem,a0,a1]) rfl ⟨rfl,HR4.out,HG4.out⟩
set_option maxRecDepth 100000 in
theorem getOff_to (K p:Nat) (n:Int) (tail:List Int) (w:World) (h:Rdw K p w (cstE 1 n ++ tail)) (hn:mayOff n=true) :
    Calls Tryz.prog 171 #[rp p] w fun e w'=>e=.returned (.int .i64 n) /\ Rdw K p w' tail /\ w.grownBy w' (some p):=by
 have h1:-2147483648 <= n /\ n <= 2147483647:=by simpa [mayOff] using hn
 have hc:=getConstant_to K p 1 n tail w h (by simp [okVal];exact h1) (by omega)
 have hw:wrap64 n=n:=wrap64_id n (by omega) (by omega)
 have hfd:∀ w:World,(Instr.field 56 (.agg #[.int .i64 1,.int .i64 n]) 1).run Tryz.prog w=.ok (.int .i64 n) w:=fun _=>by kernel_rfl
 have HC:=hid hc
 clear hc h hn
 go_enter Tryz.func171,Tryz.ntmps171
 go_wp2_with fail
 refine HC.out.mono ?_
 rintro e w1 ⟨rfl,hr,hg⟩
 have HR:=hid hr
 have HG:=hid hg
 clear hr hg HC
 go_wp2_with fail
 go_ret
 exact ⟨rfl,HR.out,HG.out⟩
open Go.RowKit
set_option maxRecDepth 100000 in
set_option maxHeartbeats 2000000 in
theorem getRun_to (K p:Nat) (n k:Int) (tail:List Int) (w:World) (h:Rdw K p w (ruE (n,k) ++ tail)) (h0:0 <= n) (h1:n <= 1000) (hk:mayK k=true):Calls Tryz.prog 192 #[rp p] w (GotRu K p w (n,k) tail):=by
 have hKp:=h.le
 have hpw:=h.lt
 have HA:Hid (Cel (w.alloc (.cells #[.int .i64 0,.int .i64 0] 184)) w.heap.size [.int .i64 0,.int .i64 0]):=hid (Cel.new w [.int .i64 0,.int .i64 0] 184)
 have HR:=hid (h.alloc (.cells #[.int .i64 0,.int .i64 0] 184))
 have HG:=hid (gr_alloc (gr_refl w (some p)) (.cells #[.int .i64 0,.int .i64 0] 184))
 have hBw:w.heap.size < (w.heap.size + 1):=by omega
 have hBp:p < (w.heap.size + 1):=by omega
 have HB:Hid (Cel ((w.alloc (.cells #[.int .i64 0,.int .i64 0] 184)).alloc (.cells #[.int .i64 0,.int .i64 0] 184)) (w.heap.size + 1) [.int .i64 0,.int .i64 0]):=hid (by have:=Cel.new (w.alloc (.cells #[.int .i64 0,.int .i64 0] 184)) [.int .i64 0,.int .i64 0] 184;simpa using this)
 have HA:=hid (HA.out.below (Nat.succ_pos _) (Bl.alloc (Bl.refl _) (.cells #[.int .i64 0,.int .i64 0] 184)))
 have HR:=hid (HR.out.alloc (.cells #[.int .i64 0,.int .i64 0] 184))
 have HG:=hid (gr_alloc HG.out (.cells #[.int .i64 0,.int .i64 0] 184))
 clear h
 go_enter Tryz.func192,Tryz.ntmps192
 have hcall:=getNumber_to K p ((w.alloc (.cells #[.int .i64 0,.int .i64 0] 184)).alloc (.cells #[.int .i64 0,.int .i64 0] 184)) n (kE k ++ tail) h0 (by omega) (by have:=HR.out;unfold ruE at this;rw [List.append_assoc] at this;exact this)
 have HCALL:=hid hcall
 clear hcall
 go_wp2_with fail
 refine HCALL.out.mono ?_
 rintro e w1 ⟨rfl,hr,hg⟩
 have HR:=hid hr
 have HA:=hid (HA.out.grown (Nat.succ_pos _) hg (by simp;omega))
 have HB:=hid (HB.out.grown (Nat.succ_pos _) hg (by simp;omega))
 have HG:=hid (gr_trans HG.out hg)
 have hszg:=HG.out.size
 clear hr hg HCALL 
 have b0:=HB.out.cell 0 _ rfl
 have fb0:=HB.out.fro 0 _ rfl
 have b1:=HB.out.cell 1 _ rfl
 have fb1:=HB.out.fro 1 _ rfl
 have HB:=hid (HB.out.set 0 (.int .i64 n) (by simp))
 have HA:=hid (HA.out.other (show w.heap.size ≠ (w.heap.size + 1) by omega) 0 (.int .i64 n))
 have hg2:=grown_set w1 ⟨(w.heap.size + 1),0,none⟩ (.int .i64 n)
 have HR:=hid (HR.out.gr hg2 (fun q e=>by have h:(w.heap.size + 1)=q:=(by simpa using e);omega))
 have HG:=hid (gr_row HG.out hg2 (fun q e=>by have h:(w.heap.size + 1)=q:=(by simpa using e);omega))
 clear hg2
 have hcall:=getKind_to K p (w1.setCell ⟨(w.heap.size + 1),0,none⟩ (.int .i64 n)) k tail hk HR.out
 have HCALL:=hid hcall
 clear hcall
 go_wp2_with fail
 refine HCALL.out.mono ?_
 rintro e w2 ⟨rfl,hr,hg⟩
 have HR:=hid hr
 have HA:=hid (HA.out.grown (Nat.succ_pos _) hg (by simp;omega))
 have HB:=hid (HB.out.grown (Nat.succ_pos _) hg (by simp;omega))
 have HG:=hid (gr_trans HG.out hg)
 have hszg:=HG.out.size
 clear hr hg HCALL 
 have b0:=HB.out.cell 0 _ rfl
 have fb0:=HB.out.fro 0 _ rfl
 have b1:=HB.out.cell 1 _ rfl
 have fb1:=HB.out.fro 1 _ rfl
 have a0:=HA.out.cell 0 _ rfl
 have fa0:=HA.out.fro 0 _ rfl
 have a1:=HA.out.cell 1 _ rfl
 have fa1:=HA.out.fro 1 _ rfl
 have HB:=hid (HB.out.set 1 (.int .i64 k) (by simp))
 have HA:=hid (HA.out.other (show w.heap.size ≠ (w.heap.size + 1) by omega) 1 (.int .i64 k))
 have hg2:=grown_set w2 ⟨(w.heap.size + 1),1,none⟩ (.int .i64 k)
 have HR:=hid (HR.out.gr hg2 (fun q e=>by have h:(w.heap.size + 1)=q:=(by simpa using e);omega))
 have HG:=hid (gr_row HG.out hg2 (fun q e=>by have h:(w.heap.size + 1)=q:=(by simpa using e);omega))
 clear hg2
 have hgA:World.grownBy (w2.setCell ⟨(w.heap.size + 1),1,none⟩ (.int .i64 k)) (((w2.setCell ⟨(w.heap.size + 1),1,none⟩ (.int .i64 k)).setCell ⟨w.heap.size,0,none⟩ (.int .i64 n)).setCell ⟨w.heap.size,1,none⟩ (.int .i64 k)) (some w.heap.size):=(gr_set (gr_set (gr_refl _ _) 0 _) 1 _)
 have HR:=hid (HR.out.gr hgA (fun q e=>by have h:w.heap.size=q:=(by simpa using e);omega))
 have HG:=hid (gr_row HG.out hgA (fun q e=>by have h:w.heap.size=q:=(by simpa using e);omega))
 clear hgA
 go_wp2_with fail
 refine bodyPost_ret (v:=.agg #[.int .i64 n,.int .i64 k]) (by simp [results,Tryz.results192,go_sem,a0,a1]) rfl ⟨[.int .i64 n,.int .i64 k],rfl,?_,HR.out,HG.out⟩
 exact Bx.pure rfl
set_option maxRecDepth 100000 in
set_option maxHeartbeats 2000000 in
theorem getImport_to (K p:Nat) (m s:ByteArray) (t:Int) (tail:List Int) (w:World) (h:Rdw K p w (imE ⟨m,s,t⟩ ++ tail)) (hm:m.size <= 1000) (hs:s.size <= 1000) (h0:0 <= t) (h1:t <= 1000):Calls Tryz.prog 106 #[rp p] w (GotIm K p w ⟨m,s,t⟩ tail):=by
 have hKp:=h.le
 have hpw:=h.lt
 have HA:Hid (Cel (w.alloc (.cells #[.string ⟨#[]⟩,.string ⟨#[]⟩,.int .i64 0] 62)) w.heap.size [.string ⟨#[]⟩,.string ⟨#[]⟩,.int .i64 0]):=hid (Cel.new w [.string ⟨#[]⟩,.string ⟨#[]⟩,.int .i64 0] 62)
 have HR:=hid (h.alloc (.cells #[.string ⟨#[]⟩,.string ⟨#[]⟩,.int .i64 0] 62))
 have HG:=hid (gr_alloc (gr_refl w (some p)) (.cells #[.string ⟨#[]⟩,.string ⟨#[]⟩,.int .i64 0] 62))
 have hBw:w.heap.size < (w.heap.size + 1):=by omega
 have hBp:p < (w.heap.size + 1):=by omega
 have HB:Hid (Cel ((w.alloc (.cells #[.string ⟨#[]⟩,.string ⟨#[]⟩,.int .i64 0] 62)).alloc (.cells #[.string ⟨#[]⟩,.string ⟨#[]⟩,.int .i64 0] 62)) (w.heap.size + 1) [.string ⟨#[]⟩,.string ⟨#[]⟩,.int .i64 0]):=hid (by have:=Cel.new (w.alloc (.cells #[.string ⟨#[]⟩,.string ⟨#[]⟩,.int .i64 0] 62)) [.string ⟨#[]⟩,.string ⟨#[]⟩,.int .i64 0] 62;simpa using this)
 have HA:=hid (HA.out.below (Nat.succ_pos _) (Bl.alloc (Bl.refl _) (.cells #[.string ⟨#[]⟩,.string ⟨#[]⟩,.int .i64 0] 62)))
 have HR:=hid (HR.out.alloc (.cells #[.string ⟨#[]⟩,.string ⟨#[]⟩,.int .i64 0] 62))
 have HG:=hid (gr_alloc HG.out (.cells #[.string ⟨#[]⟩,.string ⟨#[]⟩,.int .i64 0] 62))
 clear h
 go_enter Tryz.func106,Tryz.ntmps106
 have hcall:=getName_to K p m (nmE s ++ (0 :: (numE t ++ tail))) ((w.alloc (.cells #[.string ⟨#[]⟩,.string ⟨#[]⟩,.int .i64 0] 62)).alloc (.cells #[.string ⟨#[]⟩,.string ⟨#[]⟩,.int .i64 0] 62)) (by have:=HR.out;simpa [imE] using this) hm
 have HCALL:=hid hcall
 clear hcall
 go_wp2_with fail
 refine HCALL.out.mono ?_
 rintro e w1 ⟨rfl,hr,hg⟩
 have HR:=hid hr
 have HA:=hid (HA.out.grown (Nat.succ_pos _) hg (by simp;omega))
 have HB:=hid (HB.out.grown (Nat.succ_pos _) hg (by simp;omega))
 have HG:=hid (gr_trans HG.out hg)
 have hszg:=HG.out.size
 clear hr hg HCALL 
 have b0:=HB.out.cell 0 _ rfl
 have fb0:=HB.out.fro 0 _ rfl
 have b1:=HB.out.cell 1 _ rfl
 have fb1:=HB.out.fro 1 _ rfl
 have b2:=HB.out.cell 2 _ rfl
 have fb2:=HB.out.fro 2 _ rfl
 have HB:=hid (HB.out.set 0 (.string m) (by simp))
 have HA:=hid (HA.out.other (show w.heap.size ≠ (w.heap.size + 1) by omega) 0 (.string m))
 have hg2:=grown_set w1 ⟨(w.heap.size + 1),0,none⟩ (.string m)
 have HR:=hid (HR.out.gr hg2 (fun q e=>by have h:(w.heap.size + 1)=q:=(by simpa using e);omega))
 have HG:=hid (gr_row HG.out hg2 (fun q e=>by have h:(w.heap.size + 1)=q:=(by simpa using e);omega))
 clear hg2
 have hcall:=getName_to K p s (0 :: (numE t ++ tail)) (w1.setCell ⟨(w.heap.size + 1),0,none⟩ (.string m)) HR.out hs
 have HCALL:=hid hcall
 clear hcall
 go_wp2_with fail
 refine HCALL.out.mono ?_
 rintro e w2 ⟨rfl,hr,hg⟩
 have HR:=hid hr
 have HA:=hid (HA.out.grown (Nat.succ_pos _) hg (by simp;omega))
 have HB:=hid (HB.out.grown (Nat.succ_pos _) hg (by simp;omega))
 have HG:=hid (gr_trans HG.out hg)
 have hszg:=HG.out.size
 clear hr hg HCALL 
 have b0:=HB.out.cell 0 _ rfl
 have fb0:=HB.out.fro 0 _ rfl
 have b1:=HB.out.cell 1 _ rfl
 have fb1:=HB.out.fro 1 _ rfl
 have b2:=HB.out.cell 2 _ rfl
 have fb2:=HB.out.fro 2 _ rfl
 have HB:=hid (HB.out.set 1 (.string s) (by simp))
 have HA:=hid (HA.out.other (show w.heap.size ≠ (w.heap.size + 1) by omega) 1 (.string s))
 have hg2:=grown_set w2 ⟨(w.heap.size + 1),1,none⟩ (.string s)
 have HR:=hid (HR.out.gr hg2 (fun q e=>by have h:(w.heap.size + 1)=q:=(by simpa using e);omega))
 have HG:=hid (gr_row HG.out hg2 (fun q e=>by have h:(w.heap.size + 1)=q:=(by simpa using e);omega))
 clear hg2
 have hcall:=wpass_to K p (w2.setCell ⟨(w.heap.size + 1),1,none⟩ (.string s)) (0 :: (numE t ++ tail)) 1 HR.out (by simp) 1 rfl
 have HCALL:=hid hcall
 clear hcall
 go_wp2_with fail
 refine HCALL.out.mono ?_
 rintro e w3 ⟨rfl,hr,hg⟩
 have HR:=hid hr
 have HA:=hid (HA.out.grown (Nat.succ_pos _) hg (by simp;omega))
 have HB:=hid (HB.out.grown (Nat.succ_pos _) hg (by simp;omega))
 have HG:=hid (gr_trans HG.out hg)
 have hszg:=HG.out.size
 clear hr hg HCALL 
 have hcall:=getNumber_to K p w3 t tail h0 (by omega) HR.out
 have HCALL:=hid hcall
 clear hcall
 go_wp2_with fail
 refine HCALL.out.mono ?_
 rintro e w4 ⟨rfl,hr,hg⟩
 have HR:=hid hr
 have HA:=hid (HA.out.grown (Nat.succ_pos _) hg (by simp;omega))
 have HB:=hid (HB.out.grown (Nat.succ_pos _) hg (by simp;omega))
 have HG:=hid (gr_trans HG.out hg)
 have hszg:=HG.out.size
 clear hr hg HCALL 
 have b0:=HB.out.cell 0 _ rfl
 have fb0:=HB.out.fro 0 _ rfl
 have b1:=HB.out.cell 1 _ rfl
 have fb1:=HB.out.fro 1 _ rfl
 have b2:=HB.out.cell 2 _ rfl
 have fb2:=HB.out.fro 2 _ rfl
 have a0:=HA.out.cell 0 _ rfl
 have fa0:=HA.out.fro 0 _ rfl
 have a1:=HA.out.cell 1 _ rfl
 have fa1:=HA.out.fro 1 _ rfl
 have a2:=HA.out.cell 2 _ rfl
 have fa2:=HA.out.fro 2 _ rfl
 have HB:=hid (HB.out.set 2 (.int .i64 t) (by simp))
 have HA:=hid (HA.out.other (show w.heap.size ≠ (w.heap.size + 1) by omega) 2 (.int .i64 t))
 have hg2:=grown_set w4 ⟨(w.heap.size + 1),2,none⟩ (.int .i64 t)
 have HR:=hid (HR.out.gr hg2 (fun q e=>by have h:(w.heap.size + 1)=q:=(by simpa using e);omega))
 have HG:=hid (gr_row HG.out hg2 (fun q e=>by have h:(w.heap.size + 1)=q:=(by simpa using e);omega))
 clear hg2
 have hgA:World.grownBy (w4.setCell ⟨(w.heap.size + 1),2,none⟩ (.int .i64 t)) ((((w4.setCell ⟨(w.heap.size + 1),2,none⟩ (.int .i64 t)).setCell ⟨w.heap.size,0,none⟩ (.string m)).setCell ⟨w.heap.size,1,none⟩ (.string s)).setCell ⟨w.heap.size,2,none⟩ (.int .i64 t)) (some w.heap.size):=(gr_set (gr_set (gr_set (gr_refl _ _) 0 _) 1 _) 2 _)
 have HR:=hid (HR.out.gr hgA (fun q e=>by have h:w.heap.size=q:=(by simpa using e);omega))
 have HG:=hid (gr_row HG.out hgA (fun q e=>by have h:w.heap.size=q:=(by simpa using e);omega))
 clear hgA
 go_wp2_with fail
 refine bodyPost_ret (v:=.agg #[.string m,.string s,.int .i64 t]) (by simp [results,Tryz.results106,go_sem,a0,a1,a2]) rfl ⟨[.string m,.string s,.int .i64 t],rfl,?_,HR.out,HG.out⟩
 exact Bx.pure rfl
set_option maxRecDepth 100000 in
set_option maxHeartbeats 2000000 in
theorem getExport_to (K p:Nat) (m:ByteArray) (t:Int) (tail:List Int) (w:World) (h:Rdw K p w (exE ⟨m,t⟩ ++ tail)) (hm:m.size <= 1000) (h0:0 <= t) (h1:t <= 1000):Calls Tryz.prog 116 #[rp p] w (GotEx K p w ⟨m,t⟩ tail):=by
 have hKp:=h.le
 have hpw:=h.lt
 have HA:Hid (Cel (w.alloc (.cells #[.string ⟨#[]⟩,.int .i64 0] 60)) w.heap.size [.string ⟨#[]⟩,.int .i64 0]):=hid (Cel.new w [.string ⟨#[]⟩,.int .i64 0] 60)
 have HR:=hid (h.alloc (.cells #[.string ⟨#[]⟩,.int .i64 0] 60))
 have HG:=hid (gr_alloc (gr_refl w (some p)) (.cells #[.string ⟨#[]⟩,.int .i64 0] 60))
 have hBw:w.heap.size < (w.heap.size + 1):=by omega
 have hBp:p < (w.heap.size + 1):=by omega
 have HB:Hid (Cel ((w.alloc (.cells #[.string ⟨#[]⟩,.int .i64 0] 60)).alloc (.cells #[.string ⟨#[]⟩,.int .i64 0] 60)) (w.heap.size + 1) [.string ⟨#[]⟩,.int .i64 0]):=hid (by have:=Cel.new (w.alloc (.cells #[.string ⟨#[]⟩,.int .i64 0] 60)) [.string ⟨#[]⟩,.int .i64 0] 60;simpa using this)
 have HA:=hid (HA.out.below (Nat.succ_pos _) (Bl.alloc (Bl.refl _) (.cells #[.string ⟨#[]⟩,.int .i64 0] 60)))
 have HR:=hid (HR.out.alloc (.cells #[.string ⟨#[]⟩,.int .i64 0] 60))
 have HG:=hid (gr_alloc HG.out (.cells #[.string ⟨#[]⟩,.int .i64 0] 60))
 clear h
 go_enter Tryz.func116,Tryz.ntmps116
 have hcall:=getName_to K p m (0 :: (numE t ++ tail)) ((w.alloc (.cells #[.string ⟨#[]⟩,.int .i64 0] 60)).alloc (.cells #[.string ⟨#[]⟩,.int .i64 0] 60)) (by have:=HR.out;simpa [exE] using this) hm
 have HCALL:=hid hcall
 clear hcall
 go_wp2_with fail
 refine HCALL.out.mono ?_
 rintro e w1 ⟨rfl,hr,hg⟩
 have HR:=hid hr
 have HA:=hid (HA.out.grown (Nat.succ_pos _) hg (by simp;omega))
 have HB:=hid (HB.out.grown (Nat.succ_pos _) hg (by simp;omega))
 have HG:=hid (gr_trans HG.out hg)
 have hszg:=HG.out.size
 clear hr hg HCALL 
 have b0:=HB.out.cell 0 _ rfl
 have fb0:=HB.out.fro 0 _ rfl
 have b1:=HB.out.cell 1 _ rfl
 have fb1:=HB.out.fro 1 _ rfl
 have HB:=hid (HB.out.set 0 (.string m) (by simp))
 have HA:=hid (HA.out.other (show w.heap.size ≠ (w.heap.size + 1) by omega) 0 (.string m))
 have hg2:=grown_set w1 ⟨(w.heap.size + 1),0,none⟩ (.string m)
 have HR:=hid (HR.out.gr hg2 (fun q e=>by have h:(w.heap.size + 1)=q:=(by simpa using e);omega))
 have HG:=hid (gr_row HG.out hg2 (fun q e=>by have h:(w.heap.size + 1)=q:=(by simpa using e);omega))
 clear hg2
 have hcall:=wpass_to K p (w1.setCell ⟨(w.heap.size + 1),0,none⟩ (.string m)) (0 :: (numE t ++ tail)) 1 HR.out (by simp) 1 rfl
 have HCALL:=hid hcall
 clear hcall
 go_wp2_with fail
 refine HCALL.out.mono ?_
 rintro e w2 ⟨rfl,hr,hg⟩
 have HR:=hid hr
 have HA:=hid (HA.out.grown (Nat.succ_pos _) hg (by simp;omega))
 have HB:=hid (HB.out.grown (Nat.succ_pos _) hg (by simp;omega))
 have HG:=hid (gr_trans HG.out hg)
 have hszg:=HG.out.size
 clear hr hg HCALL 
 have hcall:=getNumber_to K p w2 t tail h0 (by omega) HR.out
 have HCALL:=hid hcall
 clear hcall
 go_wp2_with fail
 refine HCALL.out.mono ?_
 rintro e w3 ⟨rfl,hr,hg⟩
 have HR:=hid hr
 have HA:=hid (HA.out.grown (Nat.succ_pos _) hg (by simp;omega))
 have HB:=hid (HB.out.grown (Nat.succ_pos _) hg (by simp;omega))
 have HG:=hid (gr_trans HG.out hg)
 have hszg:=HG.out.size
 clear hr hg HCALL 
 have b0:=HB.out.cell 0 _ rfl
 have fb0:=HB.out.fro 0 _ rfl
 have b1:=HB.out.cell 1 _ rfl
 have fb1:=HB.out.fro 1 _ rfl
 have a0:=HA.out.cell 0 _ rfl
 have fa0:=HA.out.fro 0 _ rfl
 have a1:=HA.out.cell 1 _ rfl
 have fa1:=HA.out.fro 1 _ rfl
 have HB:=hid (HB.out.set 1 (.int .i64 t) (by simp))
 have HA:=hid (HA.out.other (show w.heap.size ≠ (w.heap.size + 1) by omega) 1 (.int .i64 t))
 have hg2:=grown_set w3 ⟨(w.heap.size + 1),1,none⟩ (.int .i64 t)
 have HR:=hid (HR.out.gr hg2 (fun q e=>by have h:(w.heap.size + 1)=q:=(by simpa using e);omega))
 have HG:=hid (gr_row HG.out hg2 (fun q e=>by have h:(w.heap.size + 1)=q:=(by simpa using e);omega))
 clear hg2
 have hgA:World.grownBy (w3.setCell ⟨(w.heap.size + 1),1,none⟩ (.int .i64 t)) (((w3.setCell ⟨(w.heap.size + 1),1,none⟩ (.int .i64 t)).setCell ⟨w.heap.size,0,none⟩ (.string m)).setCell ⟨w.heap.size,1,none⟩ (.int .i64 t)) (some w.heap.size):=(gr_set (gr_set (gr_refl _ _) 0 _) 1 _)
 have HR:=hid (HR.out.gr hgA (fun q e=>by have h:w.heap.size=q:=(by simpa using e);omega))
 have HG:=hid (gr_row HG.out hgA (fun q e=>by have h:w.heap.size=q:=(by simpa using e);omega))
 clear hgA
 go_wp2_with fail
 refine bodyPost_ret (v:=.agg #[.string m,.int .i64 t]) (by simp [results,Tryz.results116,go_sem,a0,a1]) rfl ⟨[.string m,.int .i64 t],rfl,?_,HR.out,HG.out⟩
 exact Bx.pure rfl
set_option maxRecDepth 100000 in
set_option maxHeartbeats 2000000 in
theorem getType_to (K p:Nat) (ps rs:List Int) (tail:List Int) (w:World) (h:Rdw K p w (tyE ⟨ps,rs⟩ ++ tail)) (hl1:ps.length <= 100000) (hl2:rs.length <= 100000) (hm1:ps.all mayK=true) (hm2:rs.all mayK=true):Calls Tryz.prog 104 #[rp p] w (GotTy K p w ⟨ps,rs⟩ tail):=by
 obtain ⟨n1,hn1⟩:∃ n1,ps.length=n1:=⟨_,rfl⟩
 obtain ⟨n2,hn2⟩:∃ n2,rs.length=n2:=⟨_,rfl⟩
 have hKp:=h.le
 have hpw:=h.lt
 have HA:Hid (Cel (w.alloc (.cells #[.slice none 0 0,.slice none 0 0] 53)) w.heap.size [.slice none 0 0,.slice none 0 0]):=hid (Cel.new w [.slice none 0 0,.slice none 0 0] 53)
 have HR:=hid (h.alloc (.cells #[.slice none 0 0,.slice none 0 0] 53))
 have HG:=hid (gr_alloc (gr_refl w (some p)) (.cells #[.slice none 0 0,.slice none 0 0] 53))
 clear h
 go_enter Tryz.func104,Tryz.ntmps104
 have hcall:=wpass_to K p (w.alloc (.cells #[.slice none 0 0,.slice none 0 0] 53)) (96 :: (vecE kE ps ++ (vecE kE rs ++ tail))) 1 (by have:=HR.out;simpa [tyE] using this) (by simp) 1 rfl
 have HCALL:=hid hcall
 clear hcall
 go_wp2_with fail
 refine HCALL.out.mono ?_
 rintro e w1 ⟨rfl,hr,hg⟩
 have HR:=hid hr
 have HA:=hid (HA.out.grown (Nat.succ_pos _) hg (by simp;omega))
 have HG:=hid (gr_trans HG.out hg)
 have hszg:=HG.out.size
 clear hr hg HCALL 
 have hBw:w.heap.size < w1.heap.size:=HA.out.lt (Nat.succ_pos _)
 have hBp:p < w1.heap.size:=by omega
 have HB:Hid (Cel (w1.alloc (.cells #[.slice none 0 0,.slice none 0 0] 53)) w1.heap.size [.slice none 0 0,.slice none 0 0]):=hid (by have:=Cel.new w1 [.slice none 0 0,.slice none 0 0] 53;simpa using this)
 have HA:=hid (HA.out.below (Nat.succ_pos _) (Bl.alloc (Bl.refl _) (.cells #[.slice none 0 0,.slice none 0 0] 53)))
 have HR:=hid (HR.out.alloc (.cells #[.slice none 0 0,.slice none 0 0] 53))
 have HG:=hid (gr_alloc HG.out (.cells #[.slice none 0 0,.slice none 0 0] 53))
 have hbl:w1.heap.size + 1 <= (w1.alloc (.cells #[.slice none 0 0,.slice none 0 0] 53)).heap.size:=HB.out.lt (Nat.succ_pos _)
 have hcall:=gvKinds_to K p ps (vecE kE rs ++ tail) (w1.alloc (.cells #[.slice none 0 0,.slice none 0 0] 53)) HR.out hl1 hm1
 have HCALL:=hid hcall
 clear hcall
 go_wp2_with fail
 refine HCALL.out.mono ?_
 rintro e w2 ⟨v,rfl,ho,hr,hg⟩
 obtain ⟨o1,e1,rfl,_,_,_⟩:=ho.shape
 rw [hn1] at ho ⊢
 have HR:=hid hr
 have HA:=hid (HA.out.grown (Nat.succ_pos _) hg (by simp;omega))
 have HB:=hid (HB.out.grown (Nat.succ_pos _) hg (by simp;omega))
 have HG:=hid (gr_trans HG.out hg)
 have hszg:=HG.out.size
 have HO1:=hid (ho.lift hbl)
 clear hr hg HCALL ho hbl
 have b0:=HB.out.cell 0 _ rfl
 have fb0:=HB.out.fro 0 _ rfl
 have b1:=HB.out.cell 1 _ rfl
 have fb1:=HB.out.fro 1 _ rfl
 have HB:=hid (HB.out.set 0 (.slice o1 n1 e1) (by simp))
 have HA:=hid (HA.out.other (show w.heap.size ≠ w1.heap.size by omega) 0 (.slice o1 n1 e1))
 have hg2:=grown_set w2 ⟨w1.heap.size,0,none⟩ (.slice o1 n1 e1)
 have HR:=hid (HR.out.gr hg2 (fun q e=>by have h:w1.heap.size=q:=(by simpa using e);omega))
 have HG:=hid (gr_row HG.out hg2 (fun q e=>by have h:w1.heap.size=q:=(by simpa using e);omega))
 have HO1:=hid (HO1.out.kept hg2 (fun q e=>by have h:w1.heap.size=q:=(by simpa using e);first | omega | (simp at *;omega)))
 clear hg2
 have hbl:w1.heap.size + 1 <= (w2.setCell ⟨w1.heap.size,0,none⟩ (.slice o1 n1 e1)).heap.size:=HB.out.lt (Nat.succ_pos _)
 have hcall:=gvKinds_to K p rs tail (w2.setCell ⟨w1.heap.size,0,none⟩ (.slice o1 n1 e1)) HR.out hl2 hm2
 have HCALL:=hid hcall
 clear hcall
 go_wp2_with fail
 refine HCALL.out.mono ?_
 rintro e w3 ⟨v,rfl,ho,hr,hg⟩
 obtain ⟨o2,e2,rfl,_,_,_⟩:=ho.shape
 rw [hn2] at ho ⊢
 have HR:=hid hr
 have HA:=hid (HA.out.grown (Nat.succ_pos _) hg (by simp;omega))
 have HB:=hid (HB.out.grown (Nat.succ_pos _) hg (by simp;omega))
 have HO1:=hid (HO1.out.kept hg (fun q e=>by have h:p=q:=(by simpa using e);omega))
 have HG:=hid (gr_trans HG.out hg)
 have hszg:=HG.out.size
 have HO2:=hid (ho.lift hbl)
 clear hr hg HCALL ho hbl
 have b0:=HB.out.cell 0 _ rfl
 have fb0:=HB.out.fro 0 _ rfl
 have b1:=HB.out.cell 1 _ rfl
 have fb1:=HB.out.fro 1 _ rfl
 have a0:=HA.out.cell 0 _ rfl
 have fa0:=HA.out.fro 0 _ rfl
 have a1:=HA.out.cell 1 _ rfl
 have fa1:=HA.out.fro 1 _ rfl
 have HB:=hid (HB.out.set 1 (.slice o2 n2 e2) (by simp))
 have HA:=hid (HA.out.other (show w.heap.size ≠ w1.heap.size by omega) 1 (.slice o2 n2 e2))
 have hg2:=grown_set w3 ⟨w1.heap.size,1,none⟩ (.slice o2 n2 e2)
 have HR:=hid (HR.out.gr hg2 (fun q e=>by have h:w1.heap.size=q:=(by simpa using e);omega))
 have HG:=hid (gr_row HG.out hg2 (fun q e=>by have h:w1.heap.size=q:=(by simpa using e);omega))
 have HO1:=hid (HO1.out.kept hg2 (fun q e=>by have h:w1.heap.size=q:=(by simpa using e);first | omega | (simp at *;omega)))
 have HO2:=hid (HO2.out.kept hg2 (fun q e=>by have h:w1.heap.size=q:=(by simpa using e);first | omega | (simp at *;omega)))
 clear hg2
 have hgA:World.grownBy (w3.setCell ⟨w1.heap.size,1,none⟩ (.slice o2 n2 e2)) (((w3.setCell ⟨w1.heap.size,1,none⟩ (.slice o2 n2 e2)).setCell ⟨w.heap.size,0,none⟩ (.slice o1 n1 e1)).setCell ⟨w.heap.size,1,none⟩ (.slice o2 n2 e2)) (some w.heap.size):=(gr_set (gr_set (gr_refl _ _) 0 _) 1 _)
 have HR:=hid (HR.out.gr hgA (fun q e=>by have h:w.heap.size=q:=(by simpa using e);omega))
 have HG:=hid (gr_row HG.out hgA (fun q e=>by have h:w.heap.size=q:=(by simpa using e);omega))
 have HO1:=hid (HO1.out.kept hgA (fun q e=>by have h:w.heap.size=q:=(by simpa using e);omega))
 have HO2:=hid (HO2.out.kept hgA (fun q e=>by have h:w.heap.size=q:=(by simpa using e);omega))
 clear hgA
 go_wp2_with fail
 refine bodyPost_ret (v:=.agg #[.slice o1 n1 e1,.slice o2 n2 e2]) (by simp [results,Tryz.results104,go_sem,a0,a1]) rfl ⟨[.slice o1 n1 e1,.slice o2 n2 e2],rfl,?_,HR.out,HG.out⟩
 have q1:=HO1.out.bxs (B0:=w.heap.size) (by omega)
 have q2:=HO2.out.bxs (B0:=w.heap.size) (by omega)
 exact fun w' h'=>⟨_,_,_,_,_,_,rfl,(q1 w' h').ints,(q2 w' h').ints⟩
set_option maxRecDepth 100000 in
set_option maxHeartbeats 2000000 in
theorem getElem_to (K p:Nat) (o:Int) (fs:List Int) (tail:List Int) (w:World) (h:Rdw K p w (elE ⟨o,fs⟩ ++ tail)) (ho':mayOff o=true) (hl1:fs.length <= 100000) (hm1:fs.all mayNu=true):Calls Tryz.prog 118 #[rp p] w (GotEl K p w ⟨o,fs⟩ tail):=by
 obtain ⟨n1,hn1⟩:∃ n1,fs.length=n1:=⟨_,rfl⟩
 have hKp:=h.le
 have hpw:=h.lt
 have HA:Hid (Cel (w.alloc (.cells #[.int .i64 0,.slice none 0 0] 67)) w.heap.size [.int .i64 0,.slice none 0 0]):=hid (Cel.new w [.int .i64 0,.slice none 0 0] 67)
 have HR:=hid (h.alloc (.cells #[.int .i64 0,.slice none 0 0] 67))
 have HG:=hid (gr_alloc (gr_refl w (some p)) (.cells #[.int .i64 0,.slice none 0 0] 67))
 clear h
 go_enter Tryz.func118,Tryz.ntmps118
 have hcall:=wpass_to K p (w.alloc (.cells #[.int .i64 0,.slice none 0 0] 67)) (0 :: (cstE 1 o ++ (vecE numE fs ++ tail))) 1 (by have:=HR.out;simpa [elE] using this) (by simp) 1 rfl
 have HCALL:=hid hcall
 clear hcall
 go_wp2_with fail
 refine HCALL.out.mono ?_
 rintro e w1 ⟨rfl,hr,hg⟩
 have HR:=hid hr
 have HA:=hid (HA.out.grown (Nat.succ_pos _) hg (by simp;omega))
 have HG:=hid (gr_trans HG.out hg)
 have hszg:=HG.out.size
 clear hr hg HCALL 
 have hBw:w.heap.size < w1.heap.size:=HA.out.lt (Nat.succ_pos _)
 have hBp:p < w1.heap.size:=by omega
 have HB:Hid (Cel (w1.alloc (.cells #[.int .i64 0,.slice none 0 0] 67)) w1.heap.size [.int .i64 0,.slice none 0 0]):=hid (by have:=Cel.new w1 [.int .i64 0,.slice none 0 0] 67;simpa using this)
 have HA:=hid (HA.out.below (Nat.succ_pos _) (Bl.alloc (Bl.refl _) (.cells #[.int .i64 0,.slice none 0 0] 67)))
 have HR:=hid (HR.out.alloc (.cells #[.int .i64 0,.slice none 0 0] 67))
 have HG:=hid (gr_alloc HG.out (.cells #[.int .i64 0,.slice none 0 0] 67))
 have hcall:=getOff_to K p o (vecE numE fs ++ tail) (w1.alloc (.cells #[.int .i64 0,.slice none 0 0] 67)) HR.out ho'
 have HCALL:=hid hcall
 clear hcall
 go_wp2_with fail
 refine HCALL.out.mono ?_
 rintro e w2 ⟨rfl,hr,hg⟩
 have HR:=hid hr
 have HA:=hid (HA.out.grown (Nat.succ_pos _) hg (by simp;omega))
 have HB:=hid (HB.out.grown (Nat.succ_pos _) hg (by simp;omega))
 have HG:=hid (gr_trans HG.out hg)
 have hszg:=HG.out.size
 clear hr hg HCALL 
 have b0:=HB.out.cell 0 _ rfl
 have fb0:=HB.out.fro 0 _ rfl
 have b1:=HB.out.cell 1 _ rfl
 have fb1:=HB.out.fro 1 _ rfl
 have HB:=hid (HB.out.set 0 (.int .i64 o) (by simp))
 have HA:=hid (HA.out.other (show w.heap.size ≠ w1.heap.size by omega) 0 (.int .i64 o))
 have hg2:=grown_set w2 ⟨w1.heap.size,0,none⟩ (.int .i64 o)
 have HR:=hid (HR.out.gr hg2 (fun q e=>by have h:w1.heap.size=q:=(by simpa using e);omega))
 have HG:=hid (gr_row HG.out hg2 (fun q e=>by have h:w1.heap.size=q:=(by simpa using e);omega))
 clear hg2
 have hbl:w1.heap.size + 1 <= (w2.setCell ⟨w1.heap.size,0,none⟩ (.int .i64 o)).heap.size:=HB.out.lt (Nat.succ_pos _)
 have hcall:=gvNums_to K p fs tail (w2.setCell ⟨w1.heap.size,0,none⟩ (.int .i64 o)) HR.out hl1 hm1
 have HCALL:=hid hcall
 clear hcall
 go_wp2_with fail
 refine HCALL.out.mono ?_
 rintro e w3 ⟨v,rfl,ho,hr,hg⟩
 obtain ⟨o1,e1,rfl,_,_,_⟩:=ho.shape
 rw [hn1] at ho ⊢
 have HR:=hid hr
 have HA:=hid (HA.out.grown (Nat.succ_pos _) hg (by simp;omega))
 have HB:=hid (HB.out.grown (Nat.succ_pos _) hg (by simp;omega))
 have HG:=hid (gr_trans HG.out hg)
 have hszg:=HG.out.size
 have HO1:=hid (ho.lift hbl)
 clear hr hg HCALL ho hbl
 have b0:=HB.out.cell 0 _ rfl
 have fb0:=HB.out.fro 0 _ rfl
 have b1:=HB.out.cell 1 _ rfl
 have fb1:=HB.out.fro 1 _ rfl
 have a0:=HA.out.cell 0 _ rfl
 have fa0:=HA.out.fro 0 _ rfl
 have a1:=HA.out.cell 1 _ rfl
 have fa1:=HA.out.fro 1 _ rfl
 have HB:=hid (HB.out.set 1 (.slice o1 n1 e1) (by simp))
 have HA:=hid (HA.out.other (show w.heap.size ≠ w1.heap.size by omega) 1 (.slice o1 n1 e1))
 have hg2:=grown_set w3 ⟨w1.heap.size,1,none⟩ (.slice o1 n1 e1)
 have HR:=hid (HR.out.gr hg2 (fun q e=>by have h:w1.heap.size=q:=(by simpa using e);omega))
 have HG:=hid (gr_row HG.out hg2 (fun q e=>by have h:w1.heap.size=q:=(by simpa using e);omega))
 have HO1:=hid (HO1.out.kept hg2 (fun q e=>by have h:w1.heap.size=q:=(by simpa using e);first | omega | (simp at *;omega)))
 clear hg2
 have hgA:World.grownBy (w3.setCell ⟨w1.heap.size,1,none⟩ (.slice o1 n1 e1)) (((w3.setCell ⟨w1.heap.size,1,none⟩ (.slice o1 n1 e1)).setCell ⟨w.heap.size,0,none⟩ (.int .i64 o)).setCell ⟨w.heap.size,1,none⟩ (.slice o1 n1 e1)) (some w.heap.size):=(gr_set (gr_set (gr_refl _ _) 0 _) 1 _)
 have HR:=hid (HR.out.gr hgA (fun q e=>by have h:w.heap.size=q:=(by simpa using e);omega))
 have HG:=hid (gr_row HG.out hgA (fun q e=>by have h:w.heap.size=q:=(by simpa using e);omega))
 have HO1:=hid (HO1.out.kept hgA (fun q e=>by have h:w.heap.size=q:=(by simpa using e);omega))
 clear hgA
 go_wp2_with fail
 refine bodyPost_ret (v:=.agg #[.int .i64 o,.slice o1 n1 e1]) (by simp [results,Tryz.results118,go_sem,a0,a1]) rfl ⟨[.int .i64 o,.slice o1 n1 e1],rfl,?_,HR.out,HG.out⟩
 have q1:=HO1.out.bxs (B0:=w.heap.size) (by omega)
 exact fun w' h'=>⟨_,_,_,rfl,(q1 w' h').ints⟩
set_option maxRecDepth 100000 in
set_option maxHeartbeats 2000000 in
theorem getGlobal_toT (K p:Nat) (k n:Int) (tail:List Int) (w:World) (h:Rdw K p w (glE ⟨true,k,n⟩ ++ tail)) (hk:okVal k n=true) (hn:-9223372036854775808 <= n /\ n <= 9223372036854775807):Calls Tryz.prog 114 #[rp p] w (GotGl K p w ⟨true,k,n⟩ tail):=by
 have hKp:=h.le
 have hpw:=h.lt
 have HA:Hid (Cel (w.alloc (.cells #[.bool false,.int .i64 0,.int .i64 0] 58)) w.heap.size [.bool false,.int .i64 0,.int .i64 0]):=hid (Cel.new w [.bool false,.int .i64 0,.int .i64 0] 58)
 have HR:=hid (h.alloc (.cells #[.bool false,.int .i64 0,.int .i64 0] 58))
 have HG:=hid (gr_alloc (gr_refl w (some p)) (.cells #[.bool false,.int .i64 0,.int .i64 0] 58))
 clear h
 go_enter Tryz.func114,Tryz.ntmps114
 have hcall:=wpass_to K p (w.alloc (.cells #[.bool false,.int .i64 0,.int .i64 0] 58)) (kB k :: (1 :: (cstE k n ++ tail))) 1 (by have:=HR.out;simpa [glE,muB] using this) (by simp) 1 rfl
 have HCALL:=hid hcall
 clear hcall
 go_wp2_with fail
 refine HCALL.out.mono ?_
 rintro e w1 ⟨rfl,hr,hg⟩
 have HR:=hid hr
 have HA:=hid (HA.out.grown (Nat.succ_pos _) hg (by simp;omega))
 have HG:=hid (gr_trans HG.out hg)
 have hszg:=HG.out.size
 clear hr hg HCALL 
 have hBw:w.heap.size < w1.heap.size:=HA.out.lt (Nat.succ_pos _)
 have hBp:p < w1.heap.size:=by omega
 have HB:Hid (Cel (w1.alloc (.cells #[.bool false,.int .i64 0,.int .i64 0] 58)) w1.heap.size [.bool false,.int .i64 0,.int .i64 0]):=hid (by have:=Cel.new w1 [.bool false,.int .i64 0,.int .i64 0] 58;simpa using this)
 have HA:=hid (HA.out.below (Nat.succ_pos _) (Bl.alloc (Bl.refl _) (.cells #[.bool false,.int .i64 0,.int .i64 0] 58)))
 have HR:=hid (HR.out.alloc (.cells #[.bool false,.int .i64 0,.int .i64 0] 58))
 have HG:=hid (gr_alloc HG.out (.cells #[.bool false,.int .i64 0,.int .i64 0] 58))
 have hcall:=wone_to K p (w1.alloc (.cells #[.bool false,.int .i64 0,.int .i64 0] 58)) 1 (cstE k n ++ tail) HR.out
 have HCALL:=hid hcall
 clear hcall
 go_wp2_with fail
 refine HCALL.out.mono ?_
 rintro e w2 ⟨rfl,hr,hg⟩
 have HR:=hid hr
 have HA:=hid (HA.out.grown (Nat.succ_pos _) hg (by simp;omega))
 have HB:=hid (HB.out.grown (Nat.succ_pos _) hg (by simp;omega))
 have HG:=hid (gr_trans HG.out hg)
 have hszg:=HG.out.size
 clear hr hg HCALL 
 have b0:=HB.out.cell 0 _ rfl
 have fb0:=HB.out.fro 0 _ rfl
 have b1:=HB.out.cell 1 _ rfl
 have fb1:=HB.out.fro 1 _ rfl
 have b2:=HB.out.cell 2 _ rfl
 have fb2:=HB.out.fro 2 _ rfl
 have HB:=hid (HB.out.set 0 (.bool true) (by simp))
 have HA:=hid (HA.out.other (show w.heap.size ≠ w1.heap.size by omega) 0 (.bool true))
 have hg2:=grown_set w2 ⟨w1.heap.size,0,none⟩ (.bool true)
 have HR:=hid (HR.out.gr hg2 (fun q e=>by have h:w1.heap.size=q:=(by simpa using e);omega))
 have HG:=hid (gr_row HG.out hg2 (fun q e=>by have h:w1.heap.size=q:=(by simpa using e);omega))
 clear hg2
 have hcall:=getConstant_to K p k n tail (w2.setCell ⟨w1.heap.size,0,none⟩ (.bool true)) HR.out hk hn
 have HCALL:=hid hcall
 clear hcall
 go_wp2_with fail
 refine HCALL.out.mono ?_
 rintro e w3 ⟨rfl,hr,hg⟩
 have HR:=hid hr
 have HA:=hid (HA.out.grown (Nat.succ_pos _) hg (by simp;omega))
 have HB:=hid (HB.out.grown (Nat.succ_pos _) hg (by simp;omega))
 have HG:=hid (gr_trans HG.out hg)
 have hszg:=HG.out.size
 clear hr hg HCALL 
 have b0:=HB.out.cell 0 _ rfl
 have fb0:=HB.out.fro 0 _ rfl
 have b1:=HB.out.cell 1 _ rfl
 have fb1:=HB.out.fro 1 _ rfl
 have b2:=HB.out.cell 2 _ rfl
 have fb2:=HB.out.fro 2 _ rfl
 have a0:=HA.out.cell 0 _ rfl
 have fa0:=HA.out.fro 0 _ rfl
 have a1:=HA.out.cell 1 _ rfl
 have fa1:=HA.out.fro 1 _ rfl
 have a2:=HA.out.cell 2 _ rfl
 have fa2:=HA.out.fro 2 _ rfl
 have HB:=hid (HB.out.set 1 (.int .i64 k) (by simp))
 have HA:=hid (HA.out.other (show w.heap.size ≠ w1.heap.size by omega) 1 (.int .i64 k))
 have hg2:=grown_set w3 ⟨w1.heap.size,1,none⟩ (.int .i64 k)
 have HR:=hid (HR.out.gr hg2 (fun q e=>by have h:w1.heap.size=q:=(by simpa using e);omega))
 have HG:=hid (gr_row HG.out hg2 (fun q e=>by have h:w1.heap.size=q:=(by simpa using e);omega))
 clear hg2
 have HB:=hid (HB.out.set 2 (.int .i64 n) (by simp))
 have HA:=hid (HA.out.other (show w.heap.size ≠ w1.heap.size by omega) 2 (.int .i64 n))
 have hg2:=grown_set (w3.setCell ⟨w1.heap.size,1,none⟩ (.int .i64 k)) ⟨w1.heap.size,2,none⟩ (.int .i64 n)
 have HR:=hid (HR.out.gr hg2 (fun q e=>by have h:w1.heap.size=q:=(by simpa using e);omega))
 have HG:=hid (gr_row HG.out hg2 (fun q e=>by have h:w1.heap.size=q:=(by simpa using e);omega))
 clear hg2
 have hgA:World.grownBy ((w3.setCell ⟨w1.heap.size,1,none⟩ (.int .i64 k)).setCell ⟨w1.heap.size,2,none⟩ (.int .i64 n)) (((((w3.setCell ⟨w1.heap.size,1,none⟩ (.int .i64 k)).setCell ⟨w1.heap.size,2,none⟩ (.int .i64 n)).setCell ⟨w.heap.size,0,none⟩ (.bool true)).setCell ⟨w.heap.size,1,none⟩ (.int .i64 k)).setCell ⟨w.heap.size,2,none⟩ (.int .i64 n)) (some w.heap.size):=(gr_set (gr_set (gr_set (gr_refl _ _) 0 _) 1 _) 2 _)
 have HR:=hid (HR.out.gr hgA (fun q e=>by have h:w.heap.size=q:=(by simpa using e);omega))
 have HG:=hid (gr_row HG.out hgA (fun q e=>by have h:w.heap.size=q:=(by simpa using e);omega))
 clear hgA
 go_wp2_with fail
 refine bodyPost_ret (v:=.agg #[.bool true,.int .i64 k,.int .i64 n]) (by simp [results,Tryz.results114,go_sem,a0,a1,a2]) rfl ⟨[.bool true,.int .i64 k,.int .i64 n],rfl,?_,HR.out,HG.out⟩
 exact Bx.pure ⟨rfl,hn⟩
set_option maxRecDepth 100000 in
set_option maxHeartbeats 2000000 in
theorem getGlobal_toF (K p:Nat) (k n:Int) (tail:List Int) (w:World) (h:Rdw K p w (glE ⟨false,k,n⟩ ++ tail)) (hk:okVal k n=true) (hn:-9223372036854775808 <= n /\ n <= 9223372036854775807):Calls Tryz.prog 114 #[rp p] w (GotGl K p w ⟨false,k,n⟩ tail):=by
 have hKp:=h.le
 have hpw:=h.lt
 have HA:Hid (Cel (w.alloc (.cells #[.bool false,.int .i64 0,.int .i64 0] 58)) w.heap.size [.bool false,.int .i64 0,.int .i64 0]):=hid (Cel.new w [.bool false,.int .i64 0,.int .i64 0] 58)
 have HR:=hid (h.alloc (.cells #[.bool false,.int .i64 0,.int .i64 0] 58))
 have HG:=hid (gr_alloc (gr_refl w (some p)) (.cells #[.bool false,.int .i64 0,.int .i64 0] 58))
 clear h
 go_enter Tryz.func114,Tryz.ntmps114
 have hcall:=wpass_to K p (w.alloc (.cells #[.bool false,.int .i64 0,.int .i64 0] 58)) (kB k :: (0 :: (cstE k n ++ tail))) 1 (by have:=HR.out;simpa [glE,muB] using this) (by simp) 1 rfl
 have HCALL:=hid hcall
 clear hcall
 go_wp2_with fail
 refine HCALL.out.mono ?_
 rintro e w1 ⟨rfl,hr,hg⟩
 have HR:=hid hr
 have HA:=hid (HA.out.grown (Nat.succ_pos _) hg (by simp;omega))
 have HG:=hid (gr_trans HG.out hg)
 have hszg:=HG.out.size
 clear hr hg HCALL 
 have hBw:w.heap.size < w1.heap.size:=HA.out.lt (Nat.succ_pos _)
 have hBp:p < w1.heap.size:=by omega
 have HB:Hid (Cel (w1.alloc (.cells #[.bool false,.int .i64 0,.int .i64 0] 58)) w1.heap.size [.bool false,.int .i64 0,.int .i64 0]):=hid (by have:=Cel.new w1 [.bool false,.int .i64 0,.int .i64 0] 58;simpa using this)
 have HA:=hid (HA.out.below (Nat.succ_pos _) (Bl.alloc (Bl.refl _) (.cells #[.bool false,.int .i64 0,.int .i64 0] 58)))
 have HR:=hid (HR.out.alloc (.cells #[.bool false,.int .i64 0,.int .i64 0] 58))
 have HG:=hid (gr_alloc HG.out (.cells #[.bool false,.int .i64 0,.int .i64 0] 58))
 have hcall:=wone_to K p (w1.alloc (.cells #[.bool false,.int .i64 0,.int .i64 0] 58)) 0 (cstE k n ++ tail) HR.out
 have HCALL:=hid hcall
 clear hcall
 go_wp2_with fail
 refine HCALL.out.mono ?_
 rintro e w2 ⟨rfl,hr,hg⟩
 have HR:=hid hr
 have HA:=hid (HA.out.grown (Nat.succ_pos _) hg (by simp;omega))
 have HB:=hid (HB.out.grown (Nat.succ_pos _) hg (by simp;omega))
 have HG:=hid (gr_trans HG.out hg)
 have hszg:=HG.out.size
 clear hr hg HCALL 
 have b0:=HB.out.cell 0 _ rfl
 have fb0:=HB.out.fro 0 _ rfl
 have b1:=HB.out.cell 1 _ rfl
 have fb1:=HB.out.fro 1 _ rfl
 have b2:=HB.out.cell 2 _ rfl
 have fb2:=HB.out.fro 2 _ rfl
 have HB:=hid (HB.out.set 0 (.bool false) (by simp))
 have HA:=hid (HA.out.other (show w.heap.size ≠ w1.heap.size by omega) 0 (.bool false))
 have hg2:=grown_set w2 ⟨w1.heap.size,0,none⟩ (.bool false)
 have HR:=hid (HR.out.gr hg2 (fun q e=>by have h:w1.heap.size=q:=(by simpa using e);omega))
 have HG:=hid (gr_row HG.out hg2 (fun q e=>by have h:w1.heap.size=q:=(by simpa using e);omega))
 clear hg2
 have hcall:=getConstant_to K p k n tail (w2.setCell ⟨w1.heap.size,0,none⟩ (.bool false)) HR.out hk hn
 have HCALL:=hid hcall
 clear hcall
 go_wp2_with fail
 refine HCALL.out.mono ?_
 rintro e w3 ⟨rfl,hr,hg⟩
 have HR:=hid hr
 have HA:=hid (HA.out.grown (Nat.succ_pos _) hg (by simp;omega))
 have HB:=hid (HB.out.grown (Nat.succ_pos _) hg (by simp;omega))
 have HG:=hid (gr_trans HG.out hg)
 have hszg:=HG.out.size
 clear hr hg HCALL 
 have b0:=HB.out.cell 0 _ rfl
 have fb0:=HB.out.fro 0 _ rfl
 have b1:=HB.out.cell 1 _ rfl
 have fb1:=HB.out.fro 1 _ rfl
 have b2:=HB.out.cell 2 _ rfl
 have fb2:=HB.out.fro 2 _ rfl
 have a0:=HA.out.cell 0 _ rfl
 have fa0:=HA.out.fro 0 _ rfl
 have a1:=HA.out.cell 1 _ rfl
 have fa1:=HA.out.fro 1 _ rfl
 have a2:=HA.out.cell 2 _ rfl
 have fa2:=HA.out.fro 2 _ rfl
 have HB:=hid (HB.out.set 1 (.int .i64 k) (by simp))
 have HA:=hid (HA.out.other (show w.heap.size ≠ w1.heap.size by omega) 1 (.int .i64 k))
 have hg2:=grown_set w3 ⟨w1.heap.size,1,none⟩ (.int .i64 k)
 have HR:=hid (HR.out.gr hg2 (fun q e=>by have h:w1.heap.size=q:=(by simpa using e);omega))
 have HG:=hid (gr_row HG.out hg2 (fun q e=>by have h:w1.heap.size=q:=(by simpa using e);omega))
 clear hg2
 have HB:=hid (HB.out.set 2 (.int .i64 n) (by simp))
 have HA:=hid (HA.out.other (show w.heap.size ≠ w1.heap.size by omega) 2 (.int .i64 n))
 have hg2:=grown_set (w3.setCell ⟨w1.heap.size,1,none⟩ (.int .i64 k)) ⟨w1.heap.size,2,none⟩ (.int .i64 n)
 have HR:=hid (HR.out.gr hg2 (fun q e=>by have h:w1.heap.size=q:=(by simpa using e);omega))
 have HG:=hid (gr_row HG.out hg2 (fun q e=>by have h:w1.heap.size=q:=(by simpa using e);omega))
 clear hg2
 have hgA:World.grownBy ((w3.setCell ⟨w1.heap.size,1,none⟩ (.int .i64 k)).setCell ⟨w1.heap.size,2,none⟩ (.int .i64 n)) (((((w3.setCell ⟨w1.heap.size,1,none⟩ (.int .i64 k)).setCell ⟨w1.heap.size,2,none⟩ (.int .i64 n)).setCell ⟨w.heap.size,0,none⟩ (.bool false)).setCell ⟨w.heap.size,1,none⟩ (.int .i64 k)).setCell ⟨w.heap.size,2,none⟩ (.int .i64 n)) (some w.heap.size):=(gr_set (gr_set (gr_set (gr_refl _ _) 0 _) 1 _) 2 _)
 have HR:=hid (HR.out.gr hgA (fun q e=>by have h:w.heap.size=q:=(by simpa using e);omega))
 have HG:=hid (gr_row HG.out hgA (fun q e=>by have h:w.heap.size=q:=(by simpa using e);omega))
 clear hgA
 go_wp2_with fail
 refine bodyPost_ret (v:=.agg #[.bool false,.int .i64 k,.int .i64 n]) (by simp [results,Tryz.results114,go_sem,a0,a1,a2]) rfl ⟨[.bool false,.int .i64 k,.int .i64 n],rfl,?_,HR.out,HG.out⟩
 exact Bx.pure ⟨rfl,hn⟩
open Go.RowKit
set_option maxRecDepth 100000 in
theorem mul64_to (c:Int) (h0:0 <= c) (h1:c <= 32) (w:World):Calls Tryz.prog 222 #[.int .u64 1,.int .u64 c] w fun e w'=>e=.returned (.tuple #[.int .u64 0,.int .u64 c]) /\ w=w':=by
 have e1:bits BinOp.and IntKind.u64 c 4294967295=c:=by
  have:=bits_and_mask .u64 32 (by decide) (fun n h0 h1=>by rw [IntKind.wrap_u64];rw [show (2:Int) ^ 32=4294967296 from by decide] at h1;omega) c
  rw [show (2:Int) ^ 32=4294967296 from by decide] at this
  rw [show (4294967295:Int)=4294967296 - 1 from by decide,this]
  omega
 have e2:bits BinOp.and IntKind.u64 1 4294967295=1:=by decide
 have e3:c / 4294967296=0:=by omega
 have e4:bits BinOp.and IntKind.u64 0 4294967295=0:=by decide
 go_enter Tryz.func222,Tryz.ntmps222
 go_wp2_with fail
 go_ret2
 exact ⟨rfl,rfl⟩
set_option maxRecDepth 100000 in
theorem mul_to (c:Int) (h0:0 <= c) (h1:c <= 32) (w:World):Calls Tryz.prog 203 #[.int .u64 1,.int .u64 c] w fun e w'=>e=.returned (.tuple #[.int .u64 0,.int .u64 c]) /\ w=w':=by
 have hm:=mul64_to c h0 h1 w
 have HM:=hid hm
 clear hm
 go_enter Tryz.func203,Tryz.ntmps203
 go_wp2_with fail
 refine HM.out.mono ?_
 rintro e w' ⟨rfl,rfl⟩
 go_wp2_with fail
 go_ret2
 exact ⟨rfl,rfl⟩
def repC (x:Int) (n c:Nat):List Value:=List.replicate n (Value.int .i64 x) ++ List.replicate (c - n) (Value.int .i64 0)
theorem repC_len (x:Int) (n c:Nat) (h:n <= c):(repC x n c).length=c:=by
 simp only [repC,List.length_append,List.length_replicate]
 omega
theorem repC_splice (x:Int) (n m c:Nat) (_:n + m <= c):splice (repC x n c) n (List.replicate m (Value.int .i64 x))=repC x (n + m) c:=by
 unfold splice repC
 rw [List.take_left' (by simp),List.length_replicate,List.drop_append]
 simp only [List.drop_replicate,List.length_replicate]
 rw [show n - (n + m)=0 by omega,show n + m - n=m by omega,show c - n - m=c - (n + m) by omega]
 simp [<- List.append_assoc,List.replicate_append_replicate]
theorem repC_zero (x:Int) (c:Nat):repC x 0 c=List.replicate c (Value.int .i64 0):=by simp [repC]
theorem repC_full (x:Int) (c:Nat):repC x c c=List.replicate c (Value.int .i64 x):=by simp [repC]
theorem elem_i:Tryz.prog.underlying 24=some (.slice (Tryz.prog.elem 24)):=by kernel_rfl
theorem size_i (w:World):(sizeOf (Tryz.prog.elem 24)).run Tryz.prog w=.ok 1 w:=by kernel_rfl
set_option maxRecDepth 100000 in
set_option maxHeartbeats 800000 in
theorem repeat_to (x:Int) (hx:(Lit.int .i64 x).wf=true) (c:Nat) (h1:1 <= c) (h2:c <= 32) (ao:Option Addr) (cap:Nat) (w:World) (h:Rd .i64 w ao 1 cap [x]) :
    Calls Tryz.prog 193 #[.slice ao 1 cap,.int .i64 c] w fun e w'=>∃ v,e=.returned v /\ Own 3 .i64 w.heap.size w' v (List.replicate c x) /\ Below w.heap.size w w':=by
 have hm:=mul_to (c:Int) (by omega) (by omega) w
 obtain ⟨b,off,rfl,hc⟩:=h.at (by decide)
 have hc0:=hc 0 (by decide)
 simp only [List.getD_cons_zero,Nat.add_zero] at hc0
 have hb:=World.block_lt_of_cell? w _ hc0
 have HM:=hid hm
 have HX:=hid hx
 clear hm h hc
 have hd1:decide ((c:Int) < 0)=false:=by simp;try omega
 have hd2:decide ((9223372036854775807:Int) < (c:Int))=false:=by simp;omega
 have hw1:IntKind.u64.wrap (c:Int)=c:=by rw [IntKind.wrap_u64];omega
 have hw2:wrap64 (c:Int)=c:=wrap64_id _ (by omega) (by omega)
 go_enter Tryz.func193,Tryz.ntmps193
 go_wp2_with fail
 refine HM.out.mono ?_
 rintro e w' ⟨rfl,rfl⟩
 clear HM
 obtain ⟨i0,hi,hz0,hz1,hz2⟩:=info_parts infoI
 have hby:i0.bytes * c <= 281474976710656:=by rw [hz2];omega
 go_wp2_with (at_make;refine wpList_make_full _ rfl _ _ 24 rfl w.heap.size 3 i0 (.int .i64 0) 1 Tryz.underlying24 hi hz0 hz1 _ _ _ _ c rfl rfl rfl rfl hby (by unfold maxLen;omega) (Nat.le_refl _) ?_;intro w1 hrow hg1;have HROW:=hid hrow;have HG1:=hid hg1;clear hrow hg1;apply stopHere)
 refine hid ?_
 have hcur:w1.heap[w.heap.size]?=some (.cells (repC x 0 c).toArray 3 (0,0)):=by
  rcases HROW.out.2 with ⟨e,_⟩ | ⟨g,cap',cur,e,_,hgc,_,_,hsz,htk⟩
  ·simp at e
  ·simp only [Value.slice.injEq,Option.some.injEq,Addr.mk.injEq] at e
   obtain ⟨⟨rfl,_⟩,_,rfl⟩:=e
   rw [hgc]
   have e2:cur.toList=List.replicate c (Value.int .i64 0):=by
    rw [List.take_of_length_le (by rw [Array.length_toList,hsz];exact Nat.le_refl _)] at htk
    rw [htk]
    simp [madeCells,Value.cells,Nat.mod_one,List.map_const']
   rw [repC_zero,<- e2]
 have hb1:Below w.heap.size w w1:=⟨HG1.out.os,HG1.out.tape,HG1.out.output,HG1.out.size,fun k hk=>HG1.out.block k hk (by simp)⟩
 have HB1:=hid hb1
 have hx1:w1.cell? ⟨b,off,none⟩=some (.int .i64 x):=(hb1.cell (p:=⟨b,off,none⟩) hb).trans hc0
 have HX1:=hid hx1
 have HCUR:=hid hcur
 clear hcur hx1 hb1 HROW hc0 HG1
 have hsz1:(Tryz.prog.info? 3).map (·.size)=some 1:=by rw [hi];simp [hz1]
 have hfit:0 + [Value.int .i64 x].length <= (repC x 0 c).length:=by
  rw [repC_len _ _ _ (Nat.zero_le _)]
  show 0 + 1 <= c
  omega
 have hpos:0 < [Value.int .i64 x].length -> (some ⟨w.heap.size,0,none⟩:Option Addr)=some ⟨w.heap.size,0,none⟩ /\ ∃ ad,(some ⟨b,off,none⟩:Option Addr)=some ad /\ ∀ j v,[Value.int .i64 x][j]?=some v -> w1.cell? (ad.add j)=some v:=fun _=>⟨rfl,⟨b,off,none⟩,rfl,fun j v hj=>by
  cases j with
  | zero =>
    simp at hj
    subst hj
    rw [Addr.add_lit]
    exact HX1.out
  | succ j=>simp at hj⟩
 have HFIT:=hid hfit
 have HPOS:=hid hpos
 clear hfit hpos
 go_wp2_with (refine wpList_copy_splice rfl (.tmp 31) (.tmp 32) 24 24 rfl 3 Tryz.underlying24 hsz1 (some ⟨w.heap.size,0,none⟩) (some ⟨b,off,none⟩) c c 1 cap rfl rfl w.heap.size 0 (repC x 0 c) 3 HCUR.out [.int .i64 x] (Nat.min_eq_left h1).symm HPOS.out HFIT.out (by simp [Value.oneCell']) w.heap.size w HB1.out (Nat.le_refl _) ?_;intro w2 hg2 hb2;have HB2:=hid hb2;clear hb2;apply stopHere)
 refine hid ?_
 have hg3:Hid (w2.heap[w.heap.size]?=some (.cells (repC x 1 c).toArray 3 (0,0))):=by
  have:=hg2.out
  have e:=repC_splice x 0 1 c (by omega)
  rw [show List.replicate 1 (Value.int .i64 x)=[Value.int .i64 x] from rfl,Nat.zero_add] at e
  rw [e] at this
  exact this
 clear hg2 HCUR HB1 HX1
 go_wp2_with fail
 go_loopw [8] (fun n wr=>∃ k:Nat,1 <= k /\ k <= c /\ n=.int .i64 k /\ Hid (wr.heap[w.heap.size]?=some (.cells (repC x k c).toArray 3 (0,0))) /\ Below w.heap.size w wr) (fun n _=>c - (intOf n).toNat)
 case atStart=>exact ⟨1,Nat.le_refl _,h1,rfl,hg3,HB2.out⟩
 case round =>
  obtain ⟨k,hk1,hkc,rfl,HK,hb⟩:=hrel
  have HB:=hid hb
  clear hb hg3 HB2
  by_cases hk:k < c
  ·have hcut1:=run_cut_l (P:=Tryz.prog) 24 elem_i size_i (some ⟨w.heap.size,0,none⟩) c c (k:Int) k rfl (by omega)
   have hcut2:=run_cut_h (P:=Tryz.prog) 24 elem_i size_i (some ⟨w.heap.size,0,none⟩) c c (k:Int) k rfl (by omega)
   have hca:cutAt (some ⟨w.heap.size,0,none⟩) k c=some ⟨w.heap.size,k,none⟩:=by
    unfold cutAt
    rw [if_neg (by omega)]
    simp [Addr.add_lit]
   rw [hca] at hcut1
   obtain ⟨m,hm⟩:∃ m,Nat.min k (c - k)=m:=⟨_,rfl⟩
   obtain ⟨d,hd⟩:∃ d,c - k=d:=⟨_,rfl⟩
   rw [hd] at hcut1 hm
   have hmk:m <= k:=by rw [<- hm];exact Nat.min_le_left _ _
   have hmd:m <= d:=by rw [<- hm];exact Nat.min_le_right _ _
   have hm1:1 <= m:=by rw [<- hm];exact Nat.le_min.2 ⟨hk1,by omega⟩
   have HM2:=hid hm
   clear hca hm
   have hsp:=repC_splice x k m c (by omega)
   have hfit2:k + (List.replicate m (Value.int .i64 x)).length <= (repC x k c).length:=by
    rw [repC_len _ _ _ hkc,List.length_replicate]
    omega
   have hsrc:∀ j v,(List.replicate m (Value.int .i64 x))[j]?=some v -> wr.cell? ⟨w.heap.size,j,none⟩=some v:=by
    intro j v hj
    have hjm:j < m:=by have:=(List.getElem?_eq_some_iff.1 hj).1;simpa using this
    have hv:v=.int .i64 x:=by
     have:=(List.getElem?_eq_some_iff.1 hj).2
     simpa using this.symm
    subst hv
    unfold World.cell?
    dsimp only
    rw [HK.out]
    have hjk:j < k:=by omega
    show (repC x k c).toArray[j]?=_
    rw [List.getElem?_toArray]
    unfold repC
    rw [List.getElem?_append_left (by simpa using hjk),List.getElem?_replicate,if_pos hjk]
   have HSRC:=hid hsrc
   have HSP:=hid hsp
   have HFIT2:=hid hfit2
   clear hsrc hsp hfit2 HPOS HFIT
   go_wp2_with fail
   go_region_law (refine step_copy_splice rfl (.tmp 41) (.tmp 44) 24 24 rfl 3 Tryz.underlying24 hsz1 (some ⟨w.heap.size,k,none⟩) (some ⟨w.heap.size,0,none⟩) d d k c (by simp [Act.eval,Act.put]) (by simp [Act.eval,Act.put]) w.heap.size k (repC x k c) 3 HK.out (List.replicate m (Value.int .i64 x)) (by rw [List.length_replicate];exact HM2.out.symm) (fun _=>⟨rfl,_,rfl,fun j v hj=>by rw [Addr.add_lit,Nat.zero_add];exact HSRC.out j v hj⟩) HFIT2.out (by intro v hv;rw [List.eq_of_mem_replicate hv];simp [Value.oneCell']) w.heap.size w HB.out.drew (Nat.le_refl _) ?_;intro w4 hg4 hb4;have HG4:=hid hg4.out;have HB4:=hid hb4;clear hg4 hb4)
   rw [HSP.out] at HG4
   have hw3:IntKind.i64.wrap ((k:Int) + (m:Int))=(k:Int) + m:=IntWalk.i64_in _ (by omega)
   simp [Act.put,hw3]
   go_roundw
   case rel=>exact ⟨.int .i64 ((k:Int) + m),_,_,_,_,_,_,_,_,_,_,_,_,_,⟨k + m,by omega,by omega,by simp,HG4.out,HB4.out⟩,rfl⟩
   case measure=>simp [intOf];omega
  ·have e0:k=c:=by omega
   subst e0
   have hown:Hid (Own 3 .i64 w.heap.size wr (.slice (some ⟨w.heap.size,0,none⟩) k k) (List.replicate k x)):=by
    refine ⟨⟨by simp,.inr ⟨w.heap.size,k,(repC x k k).toArray,by simp,Nat.le_refl _,HK.out,by simp,by unfold maxLen;omega,by simp [repC_full],by simp [repC_full]⟩⟩,fun z hz=>?_⟩
    rw [List.eq_of_mem_replicate hz]
    exact HX.out
   clear HK
   go_wp2_with fail
   exact bodyPost_ret (v:=.slice (some ⟨w.heap.size,0,none⟩) k k) (by simp [results,Tryz.results193,go_sem]) rfl ⟨_,rfl,hown.out,HB.out⟩
open Go.RowKit
theorem en_getRun:∀ args w,(callFunc 192 args).run Tryz.prog w=.ok (.enter 192 args) w:=enters_of Tryz.func192 (by kernel_rfl) rfl
theorem spread_take_le (R:List (Int × Int)) (k:Nat) (x:Int × Int) (hx:R[k]?=some x):spread (R.take (k + 1))=spread (R.take k) ++ List.replicate x.1.toNat x.2 /\ (spread (R.take k)).length + x.1.toNat <= (spread R).length:=by
 have e:R.take (k + 1)=R.take k ++ [x]:=by rw [List.take_add_one,hx];rfl
 have h1:spread (R.take (k + 1))=spread (R.take k) ++ List.replicate x.1.toNat x.2:=by rw [e,spread_snoc]
 refine ⟨h1,?_⟩
 have h2:=congrArg List.length h1
 rw [List.length_append,List.length_replicate] at h2
 rw [<- h2]
 have h3:=spread_len (R.take (k + 1)) (R.drop (k + 1))
 rw [List.take_append_drop] at h3
 omega
set_option maxRecDepth 100000 in
set_option maxHeartbeats 2000000 in
theorem getLocals_to (K p:Nat) (ls tail:List Int) (w:World) (h:Rdw K p w (vecE ruE (runs ls) ++ tail)) (hl:ls.length <= 32) (hm:ls.all mayK=true) :
    Calls Tryz.prog 173 #[rp p] w fun e w'=>∃ v,e=.returned v /\ OwnG 3 1 (IR .i64) w.heap.size w' v ls /\ Rdw K p w' tail /\ w.grownBy w' (some p):=by
 have hsp:=runs_spread ls
 have hle:=runs_le ls
 have hki:=runs_kind ls
 have hrl:=runs_len ls
 obtain ⟨R,hR⟩:∃ R,runs ls=R:=⟨_,rfl⟩
 rw [hR] at h hsp hle hki hrl
 have hgv:=gvRu_to _ ruE K p R tail w h en_getRun (by omega) (fun x _=>by have:=num_pos x.1;simp [ruE,kE]) (fun w x t hx hr=>by
  have h1:=hle x hx
  have hk:=List.all_eq_true.1 hm x.2 (hki x hx)
  exact getRun_to K p x.1 x.2 t w hr (by omega) (by omega) hk)
 have hbd:∀ x ∈ R,1 <= x.1 /\ x.1 <= 32 /\ (x.2=1 ∨ x.2=2):=fun x hx=>by
  have h1:=hle x hx
  have hk:=List.all_eq_true.1 hm x.2 (hki x hx)
  simp [mayK] at hk
  exact ⟨h1.1,by omega,hk⟩
 have HGV:=hid hgv
 have HSP:=hid hsp
 have HBD:=hid hbd
 have hslen:(spread R).length <= 32:=by rw [hsp];exact hl
 have hRl:R.length <= 32:=by omega
 have HSL:=hid hslen
 have hpw:=h.lt
 clear h hgv hle hki hm hsp hR hbd hrl hslen
 go_enter Tryz.func173,Tryz.ntmps173
 go_wp2_with fail
 refine HGV.out.mono ?_
 rintro e w1 ⟨v,rfl,ho,hr,hg⟩
 obtain ⟨vo,vc,rfl,hrx⟩:=ho.rx
 obtain ⟨n,hn⟩:∃ n,R.length=n:=⟨_,rfl⟩
 rw [hn] at hrx hRl ⊢
 have HRX:=hid hrx
 have HR1:=hid hr
 have HG1:=hid hg
 have hsz1:=hg.size
 have Hn:=hid hn
 clear ho hr hg hrx HGV hn
 go_wp2_with fail
 go_loopw [3,9] (fun v i wr=>∃ k:Nat,k <= n /\ i=.int .i64 k /\ Own 3 .i64 w1.heap.size wr v (spread (R.take k)) /\ Below w1.heap.size w1 wr) (fun _ i _=>n - (intOf i).toNat)
 case atStart=>exact ⟨0,Nat.zero_le _,rfl,by simpa [spread] using Own.nil _ _ _ _,Below.refl _ _⟩
 case round =>
  obtain ⟨k,hkn,rfl,hown,hb⟩:=hrel
  have hsz:=hb.size
  have HO:=hid hown
  have HB:=hid hb
  clear hown hb
  by_cases hk:k < n
  ·obtain ⟨x,hx⟩:∃ x,R[k]?=some x:=⟨R[k]'(by rw [Hn.out];exact hk),List.getElem?_eq_getElem (by rw [Hn.out];exact hk)⟩
   obtain ⟨hs1,hs2⟩:=spread_take_le R k x hx
   obtain ⟨b,off,cs,rfl,hcl,hR,hc⟩:=RdG.elem (HRX.out.below HB.out) hx
   obtain ⟨c,q⟩:=x
   obtain rfl:=hR.now
   have c0:=hc 0 _ rfl
   rw [Nat.add_zero] at c0
   have c1:=hc 1 _ rfl
   have hbx:=HBD.out _ (List.mem_of_getElem? hx)
   simp only at c0 c1 hbx hs1 hs2
   obtain ⟨cn,hcn⟩:∃ cn:Nat,c=cn:=⟨c.toNat,by omega⟩
   subst hcn
   have e3:(cn:Int).toNat=cn:=by simp
   rw [e3] at hs1 hs2
   obtain ⟨ys,hys⟩:∃ ys,ys=spread (R.take k):=⟨_,rfl⟩
   rw [<- hys] at HO hs1 hs2
   obtain ⟨yo,yc,rfl,hry⟩:=HO.out.rd
   obtain ⟨yn,hyn⟩:∃ yn,ys.length=yn:=⟨_,rfl⟩
   rw [hyn] at HO hs2 ⊢
   have hsl:=HSL.out
   have hcmp:¬ ((32:Int) - (yn:Int) < (cn:Int)):=by omega
   have hcmp':IntKind.i64.wrap ((32:Int) - (yn:Int))=32 - yn:=IntWalk.i64_in _ (by omega)
   have hwq:(Lit.int .i64 q).wf=true:=WalkArith.wf_i64 (by omega)
   have HS1:=hid hs1
   have HYN:=hid hyn
   have HWQ:=hid hwq
   have hcn1:1 <= cn:=by omega
   have hcn2:cn <= 32:=by omega
   have hrb:Rd .i64 ((wr.alloc (.cells #[.int .i64 (cn:Int),.int .i64 q] 184)).alloc (.cells #[.int .i64 q] 3)) (some ⟨wr.heap.size + 1,0,none⟩) 1 1 [q]:=by
    have:=Rd.built (wr.alloc (.cells #[.int .i64 (cn:Int),.int .i64 q] 184)) .i64 3 q hwq
    simpa using this
   have HREP:=hid (repeat_to q hwq cn hcn1 hcn2 _ 1 _ hrb)
   clear hcl hR hc hx hs1 hry hys hwq hyn e3 hbx hsl hrb
   go_wp2_with fail
   refine HREP.out.mono ?_
   rintro e w2 ⟨v2,rfl,hv2,hb2⟩
   obtain ⟨zo,zc,rfl,hrz⟩:=hv2.rd
   have hzl:(List.replicate cn q).length=cn:=List.length_replicate
   rw [hzl] at hrz ⊢
   have hbb:=Bl.step (Bl.alloc (Bl.alloc (Bl.refl wr) (.cells #[.int .i64 (cn:Int),.int .i64 q] 184)) (.cells #[.int .i64 q] 3)) hb2
   have HRZ:=hid hrz
   have HO2:=hid (HO.out.below hbb (Nat.le_refl _))
   have HB2:=hid (HB.out.trans (hbb.mono hsz))
   have hsz2:=HB2.out.size
   clear hv2 hb2 hrz hzl hbb HO HB c0 c1 HREP
   go_wp2_with (at_builtin;refine wpList_append_rd rfl (.tmp 21) (.tmp 27) 24 rfl 3 .i64 w1.heap.size 8 Tryz.underlying24 infoI _ ys rfl HO2.out zo cn zc (List.replicate cn q) rfl HRZ.out (by have:=HYN.out;omega) (by have:=HYN.out;omega) hsz2 ?_;intro v3 w3 h3 h4 _)
   go_roundw
   case rel =>
    refine ⟨k + 1,by omega,by go_num,?_,HB2.out.trans h4⟩
    rw [HS1.out]
    exact h3
   case measure=>simp [intOf];omega
  ·have e0:k=n:=by omega
   subst e0
   have ht:R.take k=R:=List.take_of_length_le (by rw [Hn.out];exact Nat.le_refl _)
   have ha:=HO.out
   rw [ht,HSP.out] at ha
   have HA2:=hid ((ha.g).lift hsz1)
   have HG2:=hid (gr_trans HG1.out (gr_below HB.out (Nat.le_refl _) (some p)))
   have HR2:=hid (HR1.out.below HB.out (Nat.le_refl _))
   clear ht ha HO
   go_wp2_with fail
   exact bodyPost_ret (v:=u3) (by simp [results,Tryz.results173,go_sem]) rfl ⟨_,rfl,HA2.out,HR2.out,HG2.out⟩
open Go.RowKit
set_option maxRecDepth 100000 in
theorem clone_to (ao:Option Addr) (n cap:Nat) (xs:List Int) (w:World) (h:Rd .u8 w ao n cap xs) (hn:n <= 1000000) :
    Calls Tryz.prog 176 #[.slice ao n cap] w fun e w'=>∃ v,e=.returned v /\ Own 5 .u8 w.heap.size w' v xs /\ Below w.heap.size w w':=by
 have q22:∀ (w:World) (a:Option Addr) (n c n' c':Nat),(binOp .eql 37 (.slice a n c) (.slice none n' c')).run Tryz.prog w=.ok (.bool a.isNone) w:=fun w a n c n' c'=>by
  have:=Lib.run_eql_slice_nil (P:=Tryz.prog) w _ _ a n c n' c' Tryz.underlying37
  exact this
 cases ao with
 | none =>
   have hc:=h.nil rfl
   have h0:n=0:=by have:=h.le;omega
   have hx:xs=[]:=List.eq_nil_of_length_eq_zero (by rw [h.len];exact h0)
   subst hc h0 hx
   clear h
   go_enter Tryz.func176,Tryz.ntmps176
   go_wp2_with fail
   go_ret
   exact ⟨_,rfl,Own.nil _ _ _ _,Below.refl _ _⟩
 | some ad =>
   have H:=hid h
   clear h
   go_enter Tryz.func176,Tryz.ntmps176
   have ho:Own 5 .u8 w.heap.size (w.alloc (.cells #[] 5)) (.slice (some ⟨w.heap.size,0,none⟩) 0 0) []:=⟨World.ownsRow_made w #[] 0 (Nat.le_refl _) (by decide) rfl,fun _ h=>by cases h⟩
   go_wp2_with (at_builtin;refine wpList_append_rd rfl (.tmp 5) (.tmp 6) 37 rfl 5 .u8 w.heap.size 1 Tryz.underlying37 infoU8 _ [] rfl ho (some ad) n cap xs rfl (H.out.below (Bl.alloc (Bl.refl w) _)) (by simp;omega) (by simp;omega) (by simp) ?_;intro v2 w2 h3 h4 _)
   go_ret
   exact ⟨_,rfl,by simpa using h3,(Bl.alloc (Bl.refl w) _).trans h4⟩
theorem OwnP.g {B:Nat} {w:World} {v:Value} {is:List Ins} (h:OwnP B w v is) (ho:∀ I ∈ is,okI I):OwnG 51 4 InR B w v is:=by
 obtain ⟨ps,rfl,hrow,hin⟩:=h
 refine ⟨ps.map IP.cells,by simp,⟨?_,?_⟩,fun i cs x h1 h2=>?_⟩
 ·rw [List.length_map]
  have e:(ps.map IP.cells).flatten=ps.flatMap IP.cells:=by rw [List.flatMap_def]
  rw [e]
  exact hrow
 ·intro r hr
  obtain ⟨p,_,rfl⟩:=List.mem_map.1 hr
  rfl
 ·rw [List.getElem?_map] at h1 h2
  obtain ⟨p,hp,rfl⟩:=Option.map_eq_some_iff.1 h1
  rw [hp] at h2
  simp only [Option.map_some,Option.some.injEq] at h2
  subst h2
  have hm:=List.mem_of_getElem? hp
  obtain ⟨hr,hC⟩:=hin p hm
  have hok:=ho p.ins (List.mem_map.2 ⟨p,hm,rfl⟩)
  intro w' h'
  refine ⟨p.lo,p.ln,p.lc,rfl,⟨hr.len,hr.le,hr.max,hr.nil,fun ad ha i hi=>?_,hr.wf⟩,hok⟩
  have hc:=hr.cell ad ha i hi
  obtain ⟨k1,k2,k3⟩:=hC ad ha
  have hb:(ad.add i).block=ad.block:=by unfold Addr.add;split <;> rfl
  exact (World.cell?_of_block (h' _ (by rw [hb];exact ⟨k3,k1,k2⟩))).trans hc
set_option maxRecDepth 100000 in
set_option maxHeartbeats 1000000 in
theorem getBody_to (K p:Nat) (bo:List Ins) (tail:List Int) (w:World) (h:Rdw K p w (encMs bo ++ (11 :: tail))) (hbo:mayBo bo=true) (hok:∀ I ∈ bo,okI I) :
    Calls Tryz.prog 174 #[rp p] w fun e w'=>∃ v,e=.returned v /\ OwnG 51 4 InR w.heap.size w' v bo /\ Rdw K p w' tail /\ w.grownBy w' (some p):=by
 simp only [mayBo,Bool.and_eq_true,List.all_eq_true] at hbo
 obtain ⟨bl,hbl⟩:=Option.isSome_iff_exists.1 hbo.1
 have hge:=getB_enc tail hbl hbo.2 hok
 have e1:encMs bo ++ [11] ++ tail=encMs bo ++ (11 :: tail):=by simp
 rw [e1] at hge
 obtain ⟨ao,rn,cap,hcell,hx⟩:=h.ex
 have hget:=getB_to ao rn cap _ w hx.now
 rw [hge] at hget
 obtain ⟨m,hm⟩:∃ m,(encMs bo).length + 1=m:=⟨_,rfl⟩
 rw [hm] at hget
 unfold BRes at hget
 simp only at hget
 have HGET:=hid hget
 have HR:=hid h
 have hpw:=h.lt
 have HM:=hid hm
 clear hget hge e1 hx h hbo hbl hok hm
 go_enter Tryz.func174,Tryz.ntmps174
 go_wp2_with fail
 refine HGET.out.mono ?_
 rintro e w1 ⟨v,rfl,ho,hok,hlen,hb⟩
 have HO:=hid (ho.g hok)
 have hr1:=HR.out.below hb (Nat.le_refl _)
 have hp1:=wpass_to K p w1 _ m hr1 (by rw [<- HM.out];simp) (m:Int) rfl
 have e2:(encMs bo ++ (11 :: tail)).drop m=tail:=by rw [<- HM.out];simp [List.drop_append]
 rw [e2] at hp1
 have HP1:=hid hp1
 have HG:=hid (gr_below hb (Nat.le_refl _) (some p))
 obtain ⟨vo,vc,rfl,_,_,_⟩:=HO.out.shape
 obtain ⟨bn,hbn⟩:∃ bn,bo.length=bn:=⟨_,rfl⟩
 rw [hbn] at HO ⊢
 clear ho hok hlen hb hr1 hp1 e2 HGET hcell hbn
 go_wp2_with fail
 refine HP1.out.mono ?_
 rintro e w2 ⟨rfl,hr,hg⟩
 have HR2:=hid hr
 have HG2:=hid (gr_trans HG.out hg)
 have HO2:=hid (HO.out.kept hg (fun q e=>by have h:p=q:=(by simpa using e);omega))
 clear hr hg HP1
 go_wp2_with fail
 go_ret
 exact ⟨_,rfl,HO2.out,HR2.out,HG2.out⟩
open Go.RowKit
theorem cloneR_to (K p:Nat) (tail:List Int) (ao:Option Addr) (n cap:Nat) (xs:List Int) (w:World) (hr:Rdw K p w tail) (hx:Bx (fun b=>b < K) w fun w=>Rd .u8 w ao n cap xs) (hn:n <= 1000000) :
    Calls Tryz.prog 176 #[.slice ao n cap] w fun e w'=>∃ v,e=.returned v /\ OwnG 5 1 (IR .u8) w.heap.size w' v xs /\ Rdw K p w' tail /\ w.grownBy w' (some p):=by
 refine (clone_to ao n cap xs w hx.now hn).mono ?_
 rintro e w' ⟨v,rfl,ho,hb⟩
 exact ⟨v,rfl,ho.g,hr.below hb (Nat.le_refl _),gr_below hb (Nat.le_refl _) _⟩
set_option maxRecDepth 100000 in
set_option maxHeartbeats 2000000 in
theorem getCode_to (K p:Nat) (ls:List Int) (bo:List Ins) (tail:List Int) (w:World) (h:Rdw K p w (coE ⟨ls,bo⟩ ++ tail)) (hl:ls.length <= 32) (hm:ls.all mayK=true) (hbo:mayBo bo=true) (hok:∀ I ∈ bo,okI I):Calls Tryz.prog 120 #[rp p] w (GotCo K p w ⟨ls,bo⟩ tail):=by
 have HOK:=hid hok
 have hlen:(vecE ruE (runs ls) ++ (encMs bo ++ [11])).length <= 8000000:=by
  have h1:=ruv_le ls hl
  have h2:=body_le hbo
  rw [List.length_append]
  omega
 obtain ⟨L,hL⟩:∃ L,(vecE ruE (runs ls) ++ (encMs bo ++ [11])).length=L:=⟨_,rfl⟩
 rw [hL] at hlen
 have EL:=hid hL
 clear hL
 clear hok
 obtain ⟨n1,hn1⟩:∃ n1,ls.length=n1:=⟨_,rfl⟩
 obtain ⟨n2,hn2⟩:∃ n2,bo.length=n2:=⟨_,rfl⟩
 have hKp:=h.le
 have hpw:=h.lt
 have HA:Hid (Cel (w.alloc (.cells #[.slice none 0 0,.slice none 0 0] 49)) w.heap.size [.slice none 0 0,.slice none 0 0]):=hid (Cel.new w [.slice none 0 0,.slice none 0 0] 49)
 have HR:=hid (h.alloc (.cells #[.slice none 0 0,.slice none 0 0] 49))
 have HG:=hid (gr_alloc (gr_refl w (some p)) (.cells #[.slice none 0 0,.slice none 0 0] 49))
 clear h
 go_enter Tryz.func120,Tryz.ntmps120
 have hcall:=getNumber_to K p (w.alloc (.cells #[.slice none 0 0,.slice none 0 0] 49)) (L:Int) (vecE ruE (runs ls) ++ (encMs bo ++ (11 :: tail))) (by omega) (by omega) (by have h5:=HR.out;unfold coE szE at h5;rw [List.append_assoc,List.append_assoc,List.append_assoc,EL.out] at h5;exact h5)
 have HCALL:=hid hcall
 clear hcall
 go_wp2_with fail
 refine HCALL.out.mono ?_
 rintro e w1 ⟨rfl,hr,hg⟩
 have HR:=hid hr
 have HA:=hid (HA.out.grown (Nat.succ_pos _) hg (by simp;omega))
 have HG:=hid (gr_trans HG.out hg)
 have hszg:=HG.out.size
 clear hr hg HCALL 
 have hBw:w.heap.size < w1.heap.size:=HA.out.lt (Nat.succ_pos _)
 have hBp:p < w1.heap.size:=by omega
 have HB:Hid (Cel (w1.alloc (.cells #[.slice none 0 0,.slice none 0 0] 49)) w1.heap.size [.slice none 0 0,.slice none 0 0]):=hid (by have:=Cel.new w1 [.slice none 0 0,.slice none 0 0] 49;simpa using this)
 have HA:=hid (HA.out.below (Nat.succ_pos _) (Bl.alloc (Bl.refl _) (.cells #[.slice none 0 0,.slice none 0 0] 49)))
 have HR:=hid (HR.out.alloc (.cells #[.slice none 0 0,.slice none 0 0] 49))
 have HG:=hid (gr_alloc HG.out (.cells #[.slice none 0 0,.slice none 0 0] 49))
 have hbl:w1.heap.size + 1 <= (w1.alloc (.cells #[.slice none 0 0,.slice none 0 0] 49)).heap.size:=HB.out.lt (Nat.succ_pos _)
 have hcall:=getLocals_to K p ls (encMs bo ++ (11 :: tail)) (w1.alloc (.cells #[.slice none 0 0,.slice none 0 0] 49)) HR.out hl hm
 have HCALL:=hid hcall
 clear hcall
 go_wp2_with fail
 refine HCALL.out.mono ?_
 rintro e w2 ⟨v,rfl,ho,hr,hg⟩
 obtain ⟨o1,e1,rfl,_,_,_⟩:=ho.shape
 rw [hn1] at ho ⊢
 have HR:=hid hr
 have HA:=hid (HA.out.grown (Nat.succ_pos _) hg (by simp;omega))
 have HB:=hid (HB.out.grown (Nat.succ_pos _) hg (by simp;omega))
 have HG:=hid (gr_trans HG.out hg)
 have hszg:=HG.out.size
 have HO1:=hid (ho.lift hbl)
 clear hr hg HCALL ho hbl
 have b0:=HB.out.cell 0 _ rfl
 have fb0:=HB.out.fro 0 _ rfl
 have b1:=HB.out.cell 1 _ rfl
 have fb1:=HB.out.fro 1 _ rfl
 have HB:=hid (HB.out.set 0 (.slice o1 n1 e1) (by simp))
 have HA:=hid (HA.out.other (show w.heap.size ≠ w1.heap.size by omega) 0 (.slice o1 n1 e1))
 have hg2:=grown_set w2 ⟨w1.heap.size,0,none⟩ (.slice o1 n1 e1)
 have HR:=hid (HR.out.gr hg2 (fun q e=>by have h:w1.heap.size=q:=(by simpa using e);omega))
 have HG:=hid (gr_row HG.out hg2 (fun q e=>by have h:w1.heap.size=q:=(by simpa using e);omega))
 have HO1:=hid (HO1.out.kept hg2 (fun q e=>by have h:w1.heap.size=q:=(by simpa using e);first | omega | (simp at *;omega)))
 clear hg2
 have hbl:w1.heap.size + 1 <= (w2.setCell ⟨w1.heap.size,0,none⟩ (.slice o1 n1 e1)).heap.size:=HB.out.lt (Nat.succ_pos _)
 have hcall:=getBody_to K p bo tail (w2.setCell ⟨w1.heap.size,0,none⟩ (.slice o1 n1 e1)) HR.out hbo HOK.out
 have HCALL:=hid hcall
 clear hcall
 go_wp2_with fail
 refine HCALL.out.mono ?_
 rintro e w3 ⟨v,rfl,ho,hr,hg⟩
 obtain ⟨o2,e2,rfl,_,_,_⟩:=ho.shape
 rw [hn2] at ho ⊢
 have HR:=hid hr
 have HA:=hid (HA.out.grown (Nat.succ_pos _) hg (by simp;omega))
 have HB:=hid (HB.out.grown (Nat.succ_pos _) hg (by simp;omega))
 have HO1:=hid (HO1.out.kept hg (fun q e=>by have h:p=q:=(by simpa using e);omega))
 have HG:=hid (gr_trans HG.out hg)
 have hszg:=HG.out.size
 have HO2:=hid (ho.lift hbl)
 clear hr hg HCALL ho hbl
 have b0:=HB.out.cell 0 _ rfl
 have fb0:=HB.out.fro 0 _ rfl
 have b1:=HB.out.cell 1 _ rfl
 have fb1:=HB.out.fro 1 _ rfl
 have a0:=HA.out.cell 0 _ rfl
 have fa0:=HA.out.fro 0 _ rfl
 have a1:=HA.out.cell 1 _ rfl
 have fa1:=HA.out.fro 1 _ rfl
 have HB:=hid (HB.out.set 1 (.slice o2 n2 e2) (by simp))
 have HA:=hid (HA.out.other (show w.heap.size ≠ w1.heap.size by omega) 1 (.slice o2 n2 e2))
 have hg2:=grown_set w3 ⟨w1.heap.size,1,none⟩ (.slice o2 n2 e2)
 have HR:=hid (HR.out.gr hg2 (fun q e=>by have h:w1.heap.size=q:=(by simpa using e);omega))
 have HG:=hid (gr_row HG.out hg2 (fun q e=>by have h:w1.heap.size=q:=(by simpa using e);omega))
 have HO1:=hid (HO1.out.kept hg2 (fun q e=>by have h:w1.heap.size=q:=(by simpa using e);first | omega | (simp at *;omega)))
 have HO2:=hid (HO2.out.kept hg2 (fun q e=>by have h:w1.heap.size=q:=(by simpa using e);first | omega | (simp at *;omega)))
 clear hg2
 have hgA:World.grownBy (w3.setCell ⟨w1.heap.size,1,none⟩ (.slice o2 n2 e2)) (((w3.setCell ⟨w1.heap.size,1,none⟩ (.slice o2 n2 e2)).setCell ⟨w.heap.size,0,none⟩ (.slice o1 n1 e1)).setCell ⟨w.heap.size,1,none⟩ (.slice o2 n2 e2)) (some w.heap.size):=(gr_set (gr_set (gr_refl _ _) 0 _) 1 _)
 have HR:=hid (HR.out.gr hgA (fun q e=>by have h:w.heap.size=q:=(by simpa using e);omega))
 have HG:=hid (gr_row HG.out hgA (fun q e=>by have h:w.heap.size=q:=(by simpa using e);omega))
 have HO1:=hid (HO1.out.kept hgA (fun q e=>by have h:w.heap.size=q:=(by simpa using e);omega))
 have HO2:=hid (HO2.out.kept hgA (fun q e=>by have h:w.heap.size=q:=(by simpa using e);omega))
 clear hgA
 go_wp2_with fail
 refine bodyPost_ret (v:=.agg #[.slice o1 n1 e1,.slice o2 n2 e2]) (by simp [results,Tryz.results120,go_sem,a0,a1]) rfl ⟨[.slice o1 n1 e1,.slice o2 n2 e2],rfl,?_,HR.out,HG.out⟩
 have q1:=HO1.out.bxs (B0:=w.heap.size) (by omega)
 have q2:=HO2.out.bxs (B0:=w.heap.size) (by omega)
 exact fun w' h'=>⟨_,_,_,_,_,_,rfl,(q1 w' h').ints,q2 w' h'⟩
set_option maxRecDepth 100000 in
set_option maxHeartbeats 2000000 in
theorem getData_to (K p:Nat) (o:Int) (bs:List Int) (tail:List Int) (w:World) (h:Rdw K p w (daE ⟨o,bs⟩ ++ tail)) (ho':mayOff o=true) (hl:bs.length <= 1000):Calls Tryz.prog 122 #[rp p] w (GotDa K p w ⟨o,bs⟩ tail):=by
 obtain ⟨n1,hn1⟩:∃ n1,bs.length=n1:=⟨_,rfl⟩
 have hl1:n1 <= 1000:=by rw [<- hn1];exact hl
 have EN1:=hid hn1
 have htake:∀ {W:World},Calls Tryz.prog 157 #[rp p,.int .i64 (n1:Int)] W (fun e w'=>∃ ao cap,e=.returned (.slice ao n1 cap) /\ (Bx (fun b=>b < K) w' fun w=>Rd .u8 w ao n1 cap ((bs ++ tail).take n1)) /\ Rdw K p w' ((bs ++ tail).drop n1) /\ W.grownBy w' (some p)) -> Calls Tryz.prog 157 #[rp p,.int .i64 (n1:Int)] W (fun e w'=>∃ ao cap,e=.returned (.slice ao n1 cap) /\ (Bx (fun b=>b < K) w' fun w=>Rd .u8 w ao n1 cap bs) /\ Rdw K p w' tail /\ W.grownBy w' (some p)):=by
  intro W hh
  have e1:(bs ++ tail).take n1=bs:=by rw [<- EN1.out];simp
  have e2:(bs ++ tail).drop n1=tail:=by rw [<- EN1.out];simp
  rw [e1,e2] at hh
  exact hh
 have hKp:=h.le
 have hpw:=h.lt
 have HA:Hid (Cel (w.alloc (.cells #[.int .i64 0,.slice none 0 0] 44)) w.heap.size [.int .i64 0,.slice none 0 0]):=hid (Cel.new w [.int .i64 0,.slice none 0 0] 44)
 have HR:=hid (h.alloc (.cells #[.int .i64 0,.slice none 0 0] 44))
 have HG:=hid (gr_alloc (gr_refl w (some p)) (.cells #[.int .i64 0,.slice none 0 0] 44))
 clear h
 go_enter Tryz.func122,Tryz.ntmps122
 have hcall:=wpass_to K p (w.alloc (.cells #[.int .i64 0,.slice none 0 0] 44)) (0 :: (cstE 1 o ++ (szE bs ++ tail))) 1 (by have:=HR.out;simpa [daE] using this) (by simp) 1 rfl
 have HCALL:=hid hcall
 clear hcall
 go_wp2_with fail
 refine HCALL.out.mono ?_
 rintro e w1 ⟨rfl,hr,hg⟩
 have HR:=hid hr
 have HA:=hid (HA.out.grown (Nat.succ_pos _) hg (by simp;omega))
 have HG:=hid (gr_trans HG.out hg)
 have hszg:=HG.out.size
 clear hr hg HCALL 
 have hBw:w.heap.size < w1.heap.size:=HA.out.lt (Nat.succ_pos _)
 have hBp:p < w1.heap.size:=by omega
 have HB:Hid (Cel (w1.alloc (.cells #[.int .i64 0,.slice none 0 0] 44)) w1.heap.size [.int .i64 0,.slice none 0 0]):=hid (by have:=Cel.new w1 [.int .i64 0,.slice none 0 0] 44;simpa using this)
 have HA:=hid (HA.out.below (Nat.succ_pos _) (Bl.alloc (Bl.refl _) (.cells #[.int .i64 0,.slice none 0 0] 44)))
 have HR:=hid (HR.out.alloc (.cells #[.int .i64 0,.slice none 0 0] 44))
 have HG:=hid (gr_alloc HG.out (.cells #[.int .i64 0,.slice none 0 0] 44))
 have hcall:=getOff_to K p o (szE bs ++ tail) (w1.alloc (.cells #[.int .i64 0,.slice none 0 0] 44)) HR.out ho'
 have HCALL:=hid hcall
 clear hcall
 go_wp2_with fail
 refine HCALL.out.mono ?_
 rintro e w2 ⟨rfl,hr,hg⟩
 have HR:=hid hr
 have HA:=hid (HA.out.grown (Nat.succ_pos _) hg (by simp;omega))
 have HB:=hid (HB.out.grown (Nat.succ_pos _) hg (by simp;omega))
 have HG:=hid (gr_trans HG.out hg)
 have hszg:=HG.out.size
 clear hr hg HCALL 
 have b0:=HB.out.cell 0 _ rfl
 have fb0:=HB.out.fro 0 _ rfl
 have b1:=HB.out.cell 1 _ rfl
 have fb1:=HB.out.fro 1 _ rfl
 have HB:=hid (HB.out.set 0 (.int .i64 o) (by simp))
 have HA:=hid (HA.out.other (show w.heap.size ≠ w1.heap.size by omega) 0 (.int .i64 o))
 have hg2:=grown_set w2 ⟨w1.heap.size,0,none⟩ (.int .i64 o)
 have HR:=hid (HR.out.gr hg2 (fun q e=>by have h:w1.heap.size=q:=(by simpa using e);omega))
 have HG:=hid (gr_row HG.out hg2 (fun q e=>by have h:w1.heap.size=q:=(by simpa using e);omega))
 clear hg2
 have hcall:=getNumber_to K p (w2.setCell ⟨w1.heap.size,0,none⟩ (.int .i64 o)) (n1:Int) (bs ++ tail) (by omega) (by omega) (by have:=HR.out;unfold szE at this;rw [List.append_assoc,EN1.out] at this;exact this)
 have HCALL:=hid hcall
 clear hcall
 go_wp2_with fail
 refine HCALL.out.mono ?_
 rintro e w3 ⟨rfl,hr,hg⟩
 have HR:=hid hr
 have HA:=hid (HA.out.grown (Nat.succ_pos _) hg (by simp;omega))
 have HB:=hid (HB.out.grown (Nat.succ_pos _) hg (by simp;omega))
 have HG:=hid (gr_trans HG.out hg)
 have hszg:=HG.out.size
 clear hr hg HCALL 
 have hcall:=htake (wtake_to K p w3 (bs ++ tail) n1 HR.out (by rw [List.length_append,EN1.out];omega) (n1:Int) rfl)
 have HCALL:=hid hcall
 clear hcall
 go_wp2_with fail
 refine HCALL.out.mono ?_
 rintro e w4 ⟨ao,cap,rfl,hx,hr,hg⟩
 have HX:=hid hx
 clear hx
 have HR:=hid hr
 have HA:=hid (HA.out.grown (Nat.succ_pos _) hg (by simp;omega))
 have HB:=hid (HB.out.grown (Nat.succ_pos _) hg (by simp;omega))
 have HG:=hid (gr_trans HG.out hg)
 have hszg:=HG.out.size
 clear hr hg HCALL 
 have hbl:w1.heap.size + 1 <= w4.heap.size:=HB.out.lt (Nat.succ_pos _)
 have hcall:=cloneR_to K p tail ao n1 cap bs w4 HR.out HX.out (by omega)
 have HCALL:=hid hcall
 clear hcall
 go_wp2_with fail
 refine HCALL.out.mono ?_
 rintro e w5 ⟨v,rfl,ho,hr,hg⟩
 obtain ⟨o1,e1,rfl,_,_,_⟩:=ho.shape
 rw [hn1] at ho ⊢
 have HR:=hid hr
 have HA:=hid (HA.out.grown (Nat.succ_pos _) hg (by simp;omega))
 have HB:=hid (HB.out.grown (Nat.succ_pos _) hg (by simp;omega))
 have HG:=hid (gr_trans HG.out hg)
 have hszg:=HG.out.size
 have HO1:=hid (ho.lift hbl)
 clear hr hg HCALL ho hbl
 have b0:=HB.out.cell 0 _ rfl
 have fb0:=HB.out.fro 0 _ rfl
 have b1:=HB.out.cell 1 _ rfl
 have fb1:=HB.out.fro 1 _ rfl
 have a0:=HA.out.cell 0 _ rfl
 have fa0:=HA.out.fro 0 _ rfl
 have a1:=HA.out.cell 1 _ rfl
 have fa1:=HA.out.fro 1 _ rfl
 have HB:=hid (HB.out.set 1 (.slice o1 n1 e1) (by simp))
 have HA:=hid (HA.out.other (show w.heap.size ≠ w1.heap.size by omega) 1 (.slice o1 n1 e1))
 have hg2:=grown_set w5 ⟨w1.heap.size,1,none⟩ (.slice o1 n1 e1)
 have HR:=hid (HR.out.gr hg2 (fun q e=>by have h:w1.heap.size=q:=(by simpa using e);omega))
 have HG:=hid (gr_row HG.out hg2 (fun q e=>by have h:w1.heap.size=q:=(by simpa using e);omega))
 have HO1:=hid (HO1.out.kept hg2 (fun q e=>by have h:w1.heap.size=q:=(by simpa using e);first | omega | (simp at *;omega)))
 clear hg2
 have hgA:World.grownBy (w5.setCell ⟨w1.heap.size,1,none⟩ (.slice o1 n1 e1)) (((w5.setCell ⟨w1.heap.size,1,none⟩ (.slice o1 n1 e1)).setCell ⟨w.heap.size,0,none⟩ (.int .i64 o)).setCell ⟨w.heap.size,1,none⟩ (.slice o1 n1 e1)) (some w.heap.size):=(gr_set (gr_set (gr_refl _ _) 0 _) 1 _)
 have HR:=hid (HR.out.gr hgA (fun q e=>by have h:w.heap.size=q:=(by simpa using e);omega))
 have HG:=hid (gr_row HG.out hgA (fun q e=>by have h:w.heap.size=q:=(by simpa using e);omega))
 have HO1:=hid (HO1.out.kept hgA (fun q e=>by have h:w.heap.size=q:=(by simpa using e);omega))
 clear hgA
 go_wp2_with fail
 refine bodyPost_ret (v:=.agg #[.int .i64 o,.slice o1 n1 e1]) (by simp [results,Tryz.results122,go_sem,a0,a1]) rfl ⟨[.int .i64 o,.slice o1 n1 e1],rfl,?_,HR.out,HG.out⟩
 have q1:=HO1.out.bxs (B0:=w.heap.size) (by omega)
 exact fun w' h'=>⟨_,_,_,rfl,(q1 w' h').ints⟩
open Go.RowKit
theorem liR_got {K p:Nat} {w w':World} {x y:Int} {tail:List Int} (hr:Rdw K p w' tail) (hg:w.grownBy w' (some p)):GotLi K p w ⟨true,x,y⟩ tail (.returned (.agg #[.bool true,.int .i64 x,.int .i64 y])) w' :=
 ⟨[.bool true,.int .i64 x,.int .i64 y],rfl,Bx.pure rfl,hr,hg⟩
set_option maxRecDepth 100000 in
set_option maxHeartbeats 2000000 in
theorem getLimits_to (K p:Nat) (x y:Int) (tail:List Int) (w:World) (h:Rdw K p w (liE ⟨true,x,y⟩ ++ tail)) (h0:0 <= x) (h1:x <= 100000) (g0:-1 <= y) (g1:y <= 100000) :
    Calls Tryz.prog 112 #[rp p] w (GotLi K p w ⟨true,x,y⟩ tail):=by
 have hKp:=h.le
 have hpw:=h.lt
 have hr0:=(h.alloc (.cells #[.bool false,.int .i64 0,.int .i64 0] 26)).alloc (.cells #[.bool true,.int .i64 0,.int .i64 (-1)] 26)
 have HA0:Hid (Cel ((w.alloc (.cells #[.bool false,.int .i64 0,.int .i64 0] 26)).alloc (.cells #[.bool true,.int .i64 0,.int .i64 (-1)] 26)) w.heap.size [.bool false,.int .i64 0,.int .i64 0]):=hid ((Cel.new w [.bool false,.int .i64 0,.int .i64 0] 26).below (Nat.succ_pos _) (Bl.alloc (Bl.refl _) _))
 have HB0:Hid (Cel ((w.alloc (.cells #[.bool false,.int .i64 0,.int .i64 0] 26)).alloc (.cells #[.bool true,.int .i64 0,.int .i64 (-1)] 26)) (w.heap.size + 1) [.bool true,.int .i64 0,.int .i64 (-1)]):=hid (by have:=Cel.new (w.alloc (.cells #[.bool false,.int .i64 0,.int .i64 0] 26)) [.bool true,.int .i64 0,.int .i64 (-1)] 26;simpa using this)
 have HG0:=hid (gr_alloc (gr_alloc (gr_refl w (some p)) (.cells #[.bool false,.int .i64 0,.int .i64 0] 26)) (.cells #[.bool true,.int .i64 0,.int .i64 (-1)] 26))
 by_cases hy:y=-1
 ·subst hy
  have hone:=wone_to K p _ 0 (numE x ++ tail) hr0
  have HONE:=hid hone
  clear h hr0 hone
  go_enter Tryz.func112,Tryz.ntmps112
  go_wp2_with fail
  refine HONE.out.mono ?_
  rintro e w1 ⟨rfl,hr,hg⟩
  have hnum:=getNumber_to K p w1 x tail h0 (by omega) hr
  have HNUM:=hid hnum
  have HA1:=hid (HA0.out.grown (Nat.succ_pos _) hg (by simp;omega))
  have HB1:=hid (HB0.out.grown (Nat.succ_pos _) hg (by simp;omega))
  have HG1:=hid (gr_trans HG0.out hg)
  clear hr hg hnum HONE HA0 HB0 HG0
  go_wp2_with fail
  refine HNUM.out.mono ?_
  rintro e w2 ⟨rfl,hr,hg⟩
  have HA2:=hid (HA1.out.grown (Nat.succ_pos _) hg (by simp;omega))
  have HB2:=hid (HB1.out.grown (Nat.succ_pos _) hg (by simp;omega))
  have HG2:=hid (gr_trans HG1.out hg)
  have HR2:=hid hr
  have b0:=HB2.out.cell 0 _ rfl
  have b1:=HB2.out.cell 1 _ rfl
  have b2:=HB2.out.cell 2 _ rfl
  have fb1:=HB2.out.fro 1 _ rfl
  have a0:=HA2.out.cell 0 _ rfl
  have a1:=HA2.out.cell 1 _ rfl
  have a2:=HA2.out.cell 2 _ rfl
  have fa0:=HA2.out.fro 0 _ rfl
  have fa1:=HA2.out.fro 1 _ rfl
  have fa2:=HA2.out.fro 2 _ rfl
  have hgB:=grown_set w2 ⟨w.heap.size + 1,1,none⟩ (.int .i64 x)
  have hgA:World.grownBy (w2.setCell ⟨w.heap.size + 1,1,none⟩ (.int .i64 x)) ((((w2.setCell ⟨w.heap.size + 1,1,none⟩ (.int .i64 x)).setCell ⟨w.heap.size,0,none⟩ (.bool true)).setCell ⟨w.heap.size,1,none⟩ (.int .i64 x)).setCell ⟨w.heap.size,2,none⟩ (.int .i64 (-1))) (some w.heap.size):=gr_set (gr_set (gr_set (gr_refl _ _) 0 _) 1 _) 2 _
  have HR3:=hid ((HR2.out.gr hgB (fun q e=>by have h:w.heap.size + 1=q:=(by simpa using e);omega)).gr hgA (fun q e=>by have h:w.heap.size=q:=(by simpa using e);omega))
  have HG3:=hid (gr_row (gr_row HG2.out hgB (fun q e=>by have h:w.heap.size + 1=q:=(by simpa using e);omega)) hgA (fun q e=>by have h:w.heap.size=q:=(by simpa using e);omega))
  clear hr hg HNUM HA1 HB1 HG1 HA2 HB2 HG2 HR2 hgA hgB
  go_wp2_with fail
  exact bodyPost_ret (v:=.agg #[.bool true,.int .i64 x,.int .i64 (-1)]) (by simp [results,Tryz.results112,go_sem,a0,a1,a2]) rfl (liR_got HR3.out HG3.out)
 ·have e1:liE ⟨true,x,y⟩=1 :: (numE x ++ numE y):=by unfold liE;rw [if_neg hy]
  rw [e1] at hr0
  have hone:=wone_to K p _ 1 (numE x ++ (numE y ++ tail)) (by simpa using hr0)
  have HONE:=hid hone
  clear h hr0 hone e1
  go_enter Tryz.func112,Tryz.ntmps112
  go_wp2_with fail
  refine HONE.out.mono ?_
  rintro e w1 ⟨rfl,hr,hg⟩
  have hnum:=getNumber_to K p w1 x (numE y ++ tail) h0 (by omega) hr
  have HNUM:=hid hnum
  have HA1:=hid (HA0.out.grown (Nat.succ_pos _) hg (by simp;omega))
  have HB1:=hid (HB0.out.grown (Nat.succ_pos _) hg (by simp;omega))
  have HG1:=hid (gr_trans HG0.out hg)
  clear hr hg hnum HONE HA0 HB0 HG0
  go_wp2_with fail
  refine HNUM.out.mono ?_
  rintro e w2 ⟨rfl,hr,hg⟩
  have hgB:=grown_set w2 ⟨w.heap.size + 1,1,none⟩ (.int .i64 x)
  have hr2:=hr.gr hgB (fun q e=>by have h:w.heap.size + 1=q:=(by simpa using e);omega)
  have hnum2:=getNumber_to K p _ y tail (by omega) (by omega) hr2
  have HNUM2:=hid hnum2
  have HA2:=hid (HA1.out.grown (Nat.succ_pos _) hg (by simp;omega))
  have HB2:=hid (HB1.out.grown (Nat.succ_pos _) hg (by simp;omega))
  have b1:=HB2.out.cell 1 _ rfl
  have fb1:=HB2.out.fro 1 _ rfl
  have HA3:=hid (HA2.out.other (show w.heap.size ≠ w.heap.size + 1 by omega) 1 (.int .i64 x))
  have HB3:=hid (HB2.out.set 1 (.int .i64 x) (by simp))
  have HG3:=hid (gr_row (gr_trans HG1.out hg) hgB (fun q e=>by have h:w.heap.size + 1=q:=(by simpa using e);omega))
  clear hr hg hgB hr2 hnum2 HNUM HA1 HB1 HG1 HA2 HB2
  go_wp2_with fail
  refine HNUM2.out.mono ?_
  rintro e w3 ⟨rfl,hr,hg⟩
  have HA4:=hid (HA3.out.grown (Nat.succ_pos _) hg (by simp;omega))
  have HB4:=hid (HB3.out.grown (Nat.succ_pos _) hg (by simp;omega))
  have HG4:=hid (gr_trans HG3.out hg)
  have HR4:=hid hr
  have b0:=HB4.out.cell 0 _ rfl
  have b1:=HB4.out.cell 1 _ rfl
  have b2:=HB4.out.cell 2 _ rfl
  have fb2:=HB4.out.fro 2 _ rfl
  have a0:=HA4.out.cell 0 _ rfl
  have a1:=HA4.out.cell 1 _ rfl
  have a2:=HA4.out.cell 2 _ rfl
  have fa0:=HA4.out.fro 0 _ rfl
  have fa1:=HA4.out.fro 1 _ rfl
  have fa2:=HA4.out.fro 2 _ rfl
  have hgB:=grown_set w3 ⟨w.heap.size + 1,2,none⟩ (.int .i64 y)
  have hgA:World.grownBy (w3.setCell ⟨w.heap.size + 1,2,none⟩ (.int .i64 y)) ((((w3.setCell ⟨w.heap.size + 1,2,none⟩ (.int .i64 y)).setCell ⟨w.heap.size,0,none⟩ (.bool true)).setCell ⟨w.heap.size,1,none⟩ (.int .i64 x)).setCell ⟨w.heap.size,2,none⟩ (.int .i64 y)) (some w.heap.size):=gr_set (gr_set (gr_set (gr_refl _ _) 0 _) 1 _) 2 _
  have HR5:=hid ((HR4.out.gr hgB (fun q e=>by have h:w.heap.size + 1=q:=(by simpa using e);omega)).gr hgA (fun q e=>by have h:w.heap.size=q:=(by simpa using e);omega))
  have HG5:=hid (gr_row (gr_row HG4.out hgB (fun q e=>by have h:w.heap.size + 1=q:=(by simpa using e);omega)) hgA (fun q e=>by have h:w.heap.size=q:=(by simpa using e);omega))
  clear hr hg HNUM2 HA3 HB3 HG3 HA4 HB4 HG4 HR4 hgA hgB
  go_wp2_with fail
  exact bodyPost_ret (v:=.agg #[.bool true,.int .i64 x,.int .i64 y]) (by simp [results,Tryz.results112,go_sem,a0,a1,a2]) rfl (liR_got HR5.out HG5.out)
set_option maxRecDepth 100000 in
set_option maxHeartbeats 2000000 in
theorem getTable_to (K p:Nat) (x y:Int) (tail:List Int) (w:World) (h:Rdw K p w (taE ⟨true,x,y⟩ ++ tail)) (h0:0 <= x) (h1:x <= 100000) (g0:-1 <= y) (g1:y <= 100000) :
    Calls Tryz.prog 111 #[rp p] w (GotLi K p w ⟨true,x,y⟩ tail):=by
 have hKp:=h.le
 have hpw:=h.lt
 have hr0:=h.alloc (.cells #[.bool false,.int .i64 0,.int .i64 0] 26)
 have HA0:=hid (Cel.new w [.bool false,.int .i64 0,.int .i64 0] 26)
 have HG0:=hid (gr_alloc (gr_refl w (some p)) (.cells #[.bool false,.int .i64 0,.int .i64 0] 26))
 have hpass:=wpass_to K p _ _ 1 hr0 (by simp [taE]) 1 rfl
 have e2:(taE ⟨true,x,y⟩ ++ tail).drop 1=liE ⟨true,x,y⟩ ++ tail:=by simp [taE]
 rw [e2] at hpass
 have HPASS:=hid hpass
 clear h hr0 hpass e2
 go_enter Tryz.func111,Tryz.ntmps111
 go_wp2_with fail
 refine HPASS.out.mono ?_
 rintro e w1 ⟨rfl,hr,hg⟩
 have hlim:=getLimits_to K p x y tail w1 hr h0 h1 g0 g1
 have HLIM:=hid hlim
 have HA1:=hid (HA0.out.grown (Nat.succ_pos _) hg (by simp;omega))
 have HG1:=hid (gr_trans HG0.out hg)
 clear hr hg hlim HPASS HA0 HG0
 go_wp2_with fail
 refine HLIM.out.mono ?_
 rintro e w2 ⟨cs,rfl,hbx,hr,hg⟩
 obtain rfl:=hbx.now
 have HA2:=hid (HA1.out.grown (Nat.succ_pos _) hg (by simp;omega))
 have HG2:=hid (gr_trans HG1.out hg)
 have HR2:=hid hr
 have a0:=HA2.out.cell 0 _ rfl
 have a1:=HA2.out.cell 1 _ rfl
 have a2:=HA2.out.cell 2 _ rfl
 have fa0:=HA2.out.fro 0 _ rfl
 have fa1:=HA2.out.fro 1 _ rfl
 have fa2:=HA2.out.fro 2 _ rfl
 have hgA:World.grownBy w2 (((w2.setCell ⟨w.heap.size,0,none⟩ (.bool true)).setCell ⟨w.heap.size,1,none⟩ (.int .i64 x)).setCell ⟨w.heap.size,2,none⟩ (.int .i64 y)) (some w.heap.size):=gr_set (gr_set (gr_set (gr_refl _ _) 0 _) 1 _) 2 _
 have HR3:=hid (HR2.out.gr hgA (fun q e=>by have h:w.heap.size=q:=(by simpa using e);omega))
 have HG3:=hid (gr_row HG2.out hgA (fun q e=>by have h:w.heap.size=q:=(by simpa using e);omega))
 clear hbx hr hg HLIM HA1 HG1 HA2 HG2 HR2 hgA
 simp only
 go_wp2_with fail
 exact bodyPost_ret (v:=.agg #[.bool true,.int .i64 x,.int .i64 y]) (by simp [results,Tryz.results111,go_sem,a0,a1,a2]) rfl (liR_got HR3.out HG3.out)
theorem first_some (x:MLi) (ao:Option Addr) (cap:Nat) (w:World) (h:Rx w fun w=>RdG 3 LiR w ao 1 cap [x]):Calls Tryz.prog 109 #[.slice ao 1 cap] w fun e w'=>e=.returned (.agg #[.bool x.has,.int .i64 x.mn,.int .i64 x.mx]) /\ Below w.heap.size w w':=by
 obtain ⟨b,off,cs,rfl,_,hR,hc⟩:=RdG.elem h (i:=0) (x:=x) rfl
 obtain rfl:=hR.now
 have c0:=hc 0 _ rfl
 have c1:=hc 1 _ rfl
 have c2:=hc 2 _ rfl
 rw [Nat.zero_mul,Nat.add_zero] at c0 c1 c2
 have hb:=World.block_lt_of_cell? w _ c0
 clear h hR hc
 go_enter Tryz.func109,Tryz.ntmps109
 go_wp2_with fail
 go_returns
 exact ⟨rfl,Bl.alloc (Bl.refl w) _⟩
open Go.RowKit
def NotK (kn:Int) (tail:List Int):Prop:=tail=[] ∨ ∃ b r,tail=b :: r /\ b ≠ kn
set_option maxRecDepth 100000 in
set_option maxHeartbeats 2000000 in
theorem ptI_to (kn:Int) (g:Nat) (f:Int -> List Int) (K p:Nat) (xs:List (Int)) (tail:List Int) (w:World) (h:Rdw K p w (secE kn f xs ++ tail)) (hnk:NotK kn tail) (he:∀ args w,(callFunc g args).run Tryz.prog w=.ok (.enter g args) w) (hn:xs.length <= 100000)
    (hsz:(vecE f xs).length <= 100000) (hne:∀ x ∈ xs,0 < (f x).length)
    (HF:∀ w x t,x ∈ xs -> Rdw K p w (f x ++ t) -> Calls Tryz.prog g #[rp p] w (GotI K p w x t)) :
    Calls Tryz.prog 107 #[rp p,.int .u8 kn,.func (.func g) #[] #[]] w fun e w'=>∃ v,e=.returned v /\ OwnG 3 1 (IR .i64) w.heap.size w' v xs /\ Rdw K p w' tail /\ w.grownBy w' (some p):=by
 obtain ⟨ro,rn,rc,hcell,hrx⟩:=h.ex
 have hrd:=hrx.now
 have hrl:=hrd.len
 have H:=hid h
 have HFF:=hid HF
 have HNE:=hid hne
 clear HF hne hrx
 cases xs with
 | nil =>
   have hr2:Rdw K p w tail:=h
   have HR:=hid hr2
   simp only [secE,List.nil_append] at hrd hrl
   rcases hnk with rfl | ⟨b,r,rfl,hb⟩
   ·simp at hrl
    subst hrl
    clear h hr2 hrd H
    go_enter Tryz.func107,Tryz.ntmps107
    go_wp2_with fail
    go_ret
    exact ⟨_,rfl,OwnG.nil _ _ _ _ _,HR.out,gr_refl _ _⟩
   ·have hp:0 < rn:=by rw [<- hrl];simp
    have hp':((rn:Int) == 0)=false:=by simp;omega
    have hbk:(b != kn)=true:=by simp [hb]
    obtain ⟨q,off,rfl,hc⟩:=hrd.at hp
    have hc0:=hc 0 hp
    simp only [List.getD_cons_zero,Nat.add_zero] at hc0
    clear h hr2 hrd H hc hrl hb
    go_enter Tryz.func107,Tryz.ntmps107
    go_wp2_with fail
    go_ret
    exact ⟨_,rfl,OwnG.nil _ _ _ _ _,HR.out,gr_refl _ _⟩
 | cons x l =>
   have es:secE kn f (x :: l)=kn :: szE (vecE f (x :: l)):=rfl
   rw [es,List.cons_append] at hrd hrl
   have hr0:Rdw K p w (kn :: (szE (vecE f (x :: l)) ++ tail)):=by have:=H.out;rw [es] at this;exact this
   have hp:0 < rn:=by rw [<- hrl];simp
   have hp':((rn:Int) == 0)=false:=by simp;omega
   obtain ⟨q,off,rfl,hc⟩:=hrd.at hp
   have hc0:=hc 0 hp
   simp only [List.getD_cons_zero,Nat.add_zero] at hc0
   have hpass:=wpass_to K p w _ 1 hr0 (by simp) 1 rfl
   simp only [List.drop_succ_cons,List.drop_zero] at hpass
   have HPASS:=hid hpass
   clear h hrd H hc hrl es hr0 hpass hnk
   go_enter Tryz.func107,Tryz.ntmps107
   go_wp2_with fail
   refine HPASS.out.mono ?_
   rintro e w1 ⟨rfl,hr1,hg1⟩
   have hnum:=getNumber_to K p w1 ((vecE f (x :: l)).length:Int) (vecE f (x :: l) ++ tail) (by omega) (by omega) (by unfold szE at hr1;rw [List.append_assoc] at hr1;exact hr1)
   have HNUM:=hid hnum
   have HG1:=hid hg1
   have hs1:=hg1.size
   clear hr1 hg1 hnum HPASS hc0 hcell
   go_wp2_with fail
   refine HNUM.out.mono ?_
   rintro e w2 ⟨rfl,hr2,hg2⟩
   have hvec:=gvI_to g f K p (x :: l) tail w2 hr2 he hn HNE.out HFF.out
   have HVEC:=hid hvec
   have HG2:=hid (gr_trans HG1.out hg2)
   have hs2:=HG2.out.size
   clear hr2 hg2 hvec HNUM
   go_wp2_with fail
   refine HVEC.out.mono ?_
   rintro e w3 ⟨v,rfl,ho,hr3,hg3⟩
   have HO3:=hid (ho.lift hs2)
   have HR3:=hid hr3
   have HG3:=hid (gr_trans HG2.out hg3)
   clear ho hr3 hg3 HVEC
   go_wp2_with fail
   go_ret
   exact ⟨_,rfl,HO3.out,HR3.out,HG3.out⟩
set_option maxRecDepth 100000 in
set_option maxHeartbeats 2000000 in
theorem ptTy_to (kn:Int) (g:Nat) (f:MTy -> List Int) (K p:Nat) (xs:List (MTy)) (tail:List Int) (w:World) (h:Rdw K p w (secE kn f xs ++ tail)) (hnk:NotK kn tail) (he:∀ args w,(callFunc g args).run Tryz.prog w=.ok (.enter g args) w) (hn:xs.length <= 100000)
    (hsz:(vecE f xs).length <= 100000) (hne:∀ x ∈ xs,0 < (f x).length)
    (HF:∀ w x t,x ∈ xs -> Rdw K p w (f x ++ t) -> Calls Tryz.prog g #[rp p] w (GotTy K p w x t)) :
    Calls Tryz.prog 103 #[rp p,.int .u8 kn,.func (.func g) #[] #[]] w fun e w'=>∃ v,e=.returned v /\ OwnG 53 2 (TyR) w.heap.size w' v xs /\ Rdw K p w' tail /\ w.grownBy w' (some p):=by
 obtain ⟨ro,rn,rc,hcell,hrx⟩:=h.ex
 have hrd:=hrx.now
 have hrl:=hrd.len
 have H:=hid h
 have HFF:=hid HF
 have HNE:=hid hne
 clear HF hne hrx
 cases xs with
 | nil =>
   have hr2:Rdw K p w tail:=h
   have HR:=hid hr2
   simp only [secE,List.nil_append] at hrd hrl
   rcases hnk with rfl | ⟨b,r,rfl,hb⟩
   ·simp at hrl
    subst hrl
    clear h hr2 hrd H
    go_enter Tryz.func103,Tryz.ntmps103
    go_wp2_with fail
    go_ret
    exact ⟨_,rfl,OwnG.nil _ _ _ _ _,HR.out,gr_refl _ _⟩
   ·have hp:0 < rn:=by rw [<- hrl];simp
    have hp':((rn:Int) == 0)=false:=by simp;omega
    have hbk:(b != kn)=true:=by simp [hb]
    obtain ⟨q,off,rfl,hc⟩:=hrd.at hp
    have hc0:=hc 0 hp
    simp only [List.getD_cons_zero,Nat.add_zero] at hc0
    clear h hr2 hrd H hc hrl hb
    go_enter Tryz.func103,Tryz.ntmps103
    go_wp2_with fail
    go_ret
    exact ⟨_,rfl,OwnG.nil _ _ _ _ _,HR.out,gr_refl _ _⟩
 | cons x l =>
   have es:secE kn f (x :: l)=kn :: szE (vecE f (x :: l)):=rfl
   rw [es,List.cons_append] at hrd hrl
   have hr0:Rdw K p w (kn :: (szE (vecE f (x :: l)) ++ tail)):=by have:=H.out;rw [es] at this;exact this
   have hp:0 < rn:=by rw [<- hrl];simp
   have hp':((rn:Int) == 0)=false:=by simp;omega
   obtain ⟨q,off,rfl,hc⟩:=hrd.at hp
   have hc0:=hc 0 hp
   simp only [List.getD_cons_zero,Nat.add_zero] at hc0
   have hpass:=wpass_to K p w _ 1 hr0 (by simp) 1 rfl
   simp only [List.drop_succ_cons,List.drop_zero] at hpass
   have HPASS:=hid hpass
   clear h hrd H hc hrl es hr0 hpass hnk
   go_enter Tryz.func103,Tryz.ntmps103
   go_wp2_with fail
   refine HPASS.out.mono ?_
   rintro e w1 ⟨rfl,hr1,hg1⟩
   have hnum:=getNumber_to K p w1 ((vecE f (x :: l)).length:Int) (vecE f (x :: l) ++ tail) (by omega) (by omega) (by unfold szE at hr1;rw [List.append_assoc] at hr1;exact hr1)
   have HNUM:=hid hnum
   have HG1:=hid hg1
   have hs1:=hg1.size
   clear hr1 hg1 hnum HPASS hc0 hcell
   go_wp2_with fail
   refine HNUM.out.mono ?_
   rintro e w2 ⟨rfl,hr2,hg2⟩
   have hvec:=gvTy_to g f K p (x :: l) tail w2 hr2 he hn HNE.out HFF.out
   have HVEC:=hid hvec
   have HG2:=hid (gr_trans HG1.out hg2)
   have hs2:=HG2.out.size
   clear hr2 hg2 hvec HNUM
   go_wp2_with fail
   refine HVEC.out.mono ?_
   rintro e w3 ⟨v,rfl,ho,hr3,hg3⟩
   have HO3:=hid (ho.lift hs2)
   have HR3:=hid hr3
   have HG3:=hid (gr_trans HG2.out hg3)
   clear ho hr3 hg3 HVEC
   go_wp2_with fail
   go_ret
   exact ⟨_,rfl,HO3.out,HR3.out,HG3.out⟩
set_option maxRecDepth 100000 in
set_option maxHeartbeats 2000000 in
theorem ptIm_to (kn:Int) (g:Nat) (f:MIm -> List Int) (K p:Nat) (xs:List (MIm)) (tail:List Int) (w:World) (h:Rdw K p w (secE kn f xs ++ tail)) (hnk:NotK kn tail) (he:∀ args w,(callFunc g args).run Tryz.prog w=.ok (.enter g args) w) (hn:xs.length <= 100000)
    (hsz:(vecE f xs).length <= 100000) (hne:∀ x ∈ xs,0 < (f x).length)
    (HF:∀ w x t,x ∈ xs -> Rdw K p w (f x ++ t) -> Calls Tryz.prog g #[rp p] w (GotIm K p w x t)) :
    Calls Tryz.prog 105 #[rp p,.int .u8 kn,.func (.func g) #[] #[]] w fun e w'=>∃ v,e=.returned v /\ OwnG 62 3 (ImR) w.heap.size w' v xs /\ Rdw K p w' tail /\ w.grownBy w' (some p):=by
 obtain ⟨ro,rn,rc,hcell,hrx⟩:=h.ex
 have hrd:=hrx.now
 have hrl:=hrd.len
 have H:=hid h
 have HFF:=hid HF
 have HNE:=hid hne
 clear HF hne hrx
 cases xs with
 | nil =>
   have hr2:Rdw K p w tail:=h
   have HR:=hid hr2
   simp only [secE,List.nil_append] at hrd hrl
   rcases hnk with rfl | ⟨b,r,rfl,hb⟩
   ·simp at hrl
    subst hrl
    clear h hr2 hrd H
    go_enter Tryz.func105,Tryz.ntmps105
    go_wp2_with fail
    go_ret
    exact ⟨_,rfl,OwnG.nil _ _ _ _ _,HR.out,gr_refl _ _⟩
   ·have hp:0 < rn:=by rw [<- hrl];simp
    have hp':((rn:Int) == 0)=false:=by simp;omega
    have hbk:(b != kn)=true:=by simp [hb]
    obtain ⟨q,off,rfl,hc⟩:=hrd.at hp
    have hc0:=hc 0 hp
    simp only [List.getD_cons_zero,Nat.add_zero] at hc0
    clear h hr2 hrd H hc hrl hb
    go_enter Tryz.func105,Tryz.ntmps105
    go_wp2_with fail
    go_ret
    exact ⟨_,rfl,OwnG.nil _ _ _ _ _,HR.out,gr_refl _ _⟩
 | cons x l =>
   have es:secE kn f (x :: l)=kn :: szE (vecE f (x :: l)):=rfl
   rw [es,List.cons_append] at hrd hrl
   have hr0:Rdw K p w (kn :: (szE (vecE f (x :: l)) ++ tail)):=by have:=H.out;rw [es] at this;exact this
   have hp:0 < rn:=by rw [<- hrl];simp
   have hp':((rn:Int) == 0)=false:=by simp;omega
   obtain ⟨q,off,rfl,hc⟩:=hrd.at hp
   have hc0:=hc 0 hp
   simp only [List.getD_cons_zero,Nat.add_zero] at hc0
   have hpass:=wpass_to K p w _ 1 hr0 (by simp) 1 rfl
   simp only [List.drop_succ_cons,List.drop_zero] at hpass
   have HPASS:=hid hpass
   clear h hrd H hc hrl es hr0 hpass hnk
   go_enter Tryz.func105,Tryz.ntmps105
   go_wp2_with fail
   refine HPASS.out.mono ?_
   rintro e w1 ⟨rfl,hr1,hg1⟩
   have hnum:=getNumber_to K p w1 ((vecE f (x :: l)).length:Int) (vecE f (x :: l) ++ tail) (by omega) (by omega) (by unfold szE at hr1;rw [List.append_assoc] at hr1;exact hr1)
   have HNUM:=hid hnum
   have HG1:=hid hg1
   have hs1:=hg1.size
   clear hr1 hg1 hnum HPASS hc0 hcell
   go_wp2_with fail
   refine HNUM.out.mono ?_
   rintro e w2 ⟨rfl,hr2,hg2⟩
   have hvec:=gvIm_to g f K p (x :: l) tail w2 hr2 he hn HNE.out HFF.out
   have HVEC:=hid hvec
   have HG2:=hid (gr_trans HG1.out hg2)
   have hs2:=HG2.out.size
   clear hr2 hg2 hvec HNUM
   go_wp2_with fail
   refine HVEC.out.mono ?_
   rintro e w3 ⟨v,rfl,ho,hr3,hg3⟩
   have HO3:=hid (ho.lift hs2)
   have HR3:=hid hr3
   have HG3:=hid (gr_trans HG2.out hg3)
   clear ho hr3 hg3 HVEC
   go_wp2_with fail
   go_ret
   exact ⟨_,rfl,HO3.out,HR3.out,HG3.out⟩
set_option maxRecDepth 100000 in
set_option maxHeartbeats 2000000 in
theorem ptLi_to (kn:Int) (g:Nat) (f:MLi -> List Int) (K p:Nat) (xs:List (MLi)) (tail:List Int) (w:World) (h:Rdw K p w (secE kn f xs ++ tail)) (hnk:NotK kn tail) (he:∀ args w,(callFunc g args).run Tryz.prog w=.ok (.enter g args) w) (hn:xs.length <= 100000)
    (hsz:(vecE f xs).length <= 100000) (hne:∀ x ∈ xs,0 < (f x).length)
    (HF:∀ w x t,x ∈ xs -> Rdw K p w (f x ++ t) -> Calls Tryz.prog g #[rp p] w (GotLi K p w x t)) :
    Calls Tryz.prog 110 #[rp p,.int .u8 kn,.func (.func g) #[] #[]] w fun e w'=>∃ v,e=.returned v /\ OwnG 26 3 (LiR) w.heap.size w' v xs /\ Rdw K p w' tail /\ w.grownBy w' (some p):=by
 obtain ⟨ro,rn,rc,hcell,hrx⟩:=h.ex
 have hrd:=hrx.now
 have hrl:=hrd.len
 have H:=hid h
 have HFF:=hid HF
 have HNE:=hid hne
 clear HF hne hrx
 cases xs with
 | nil =>
   have hr2:Rdw K p w tail:=h
   have HR:=hid hr2
   simp only [secE,List.nil_append] at hrd hrl
   rcases hnk with rfl | ⟨b,r,rfl,hb⟩
   ·simp at hrl
    subst hrl
    clear h hr2 hrd H
    go_enter Tryz.func110,Tryz.ntmps110
    go_wp2_with fail
    go_ret
    exact ⟨_,rfl,OwnG.nil _ _ _ _ _,HR.out,gr_refl _ _⟩
   ·have hp:0 < rn:=by rw [<- hrl];simp
    have hp':((rn:Int) == 0)=false:=by simp;omega
    have hbk:(b != kn)=true:=by simp [hb]
    obtain ⟨q,off,rfl,hc⟩:=hrd.at hp
    have hc0:=hc 0 hp
    simp only [List.getD_cons_zero,Nat.add_zero] at hc0
    clear h hr2 hrd H hc hrl hb
    go_enter Tryz.func110,Tryz.ntmps110
    go_wp2_with fail
    go_ret
    exact ⟨_,rfl,OwnG.nil _ _ _ _ _,HR.out,gr_refl _ _⟩
 | cons x l =>
   have es:secE kn f (x :: l)=kn :: szE (vecE f (x :: l)):=rfl
   rw [es,List.cons_append] at hrd hrl
   have hr0:Rdw K p w (kn :: (szE (vecE f (x :: l)) ++ tail)):=by have:=H.out;rw [es] at this;exact this
   have hp:0 < rn:=by rw [<- hrl];simp
   have hp':((rn:Int) == 0)=false:=by simp;omega
   obtain ⟨q,off,rfl,hc⟩:=hrd.at hp
   have hc0:=hc 0 hp
   simp only [List.getD_cons_zero,Nat.add_zero] at hc0
   have hpass:=wpass_to K p w _ 1 hr0 (by simp) 1 rfl
   simp only [List.drop_succ_cons,List.drop_zero] at hpass
   have HPASS:=hid hpass
   clear h hrd H hc hrl es hr0 hpass hnk
   go_enter Tryz.func110,Tryz.ntmps110
   go_wp2_with fail
   refine HPASS.out.mono ?_
   rintro e w1 ⟨rfl,hr1,hg1⟩
   have hnum:=getNumber_to K p w1 ((vecE f (x :: l)).length:Int) (vecE f (x :: l) ++ tail) (by omega) (by omega) (by unfold szE at hr1;rw [List.append_assoc] at hr1;exact hr1)
   have HNUM:=hid hnum
   have HG1:=hid hg1
   have hs1:=hg1.size
   clear hr1 hg1 hnum HPASS hc0 hcell
   go_wp2_with fail
   refine HNUM.out.mono ?_
   rintro e w2 ⟨rfl,hr2,hg2⟩
   have hvec:=gvLi_to g f K p (x :: l) tail w2 hr2 he hn HNE.out HFF.out
   have HVEC:=hid hvec
   have HG2:=hid (gr_trans HG1.out hg2)
   have hs2:=HG2.out.size
   clear hr2 hg2 hvec HNUM
   go_wp2_with fail
   refine HVEC.out.mono ?_
   rintro e w3 ⟨v,rfl,ho,hr3,hg3⟩
   have HO3:=hid (ho.lift hs2)
   have HR3:=hid hr3
   have HG3:=hid (gr_trans HG2.out hg3)
   clear ho hr3 hg3 HVEC
   go_wp2_with fail
   go_ret
   exact ⟨_,rfl,HO3.out,HR3.out,HG3.out⟩
set_option maxRecDepth 100000 in
set_option maxHeartbeats 2000000 in
theorem ptGl_to (kn:Int) (g:Nat) (f:MGl -> List Int) (K p:Nat) (xs:List (MGl)) (tail:List Int) (w:World) (h:Rdw K p w (secE kn f xs ++ tail)) (hnk:NotK kn tail) (he:∀ args w,(callFunc g args).run Tryz.prog w=.ok (.enter g args) w) (hn:xs.length <= 100000)
    (hsz:(vecE f xs).length <= 100000) (hne:∀ x ∈ xs,0 < (f x).length)
    (HF:∀ w x t,x ∈ xs -> Rdw K p w (f x ++ t) -> Calls Tryz.prog g #[rp p] w (GotGl K p w x t)) :
    Calls Tryz.prog 113 #[rp p,.int .u8 kn,.func (.func g) #[] #[]] w fun e w'=>∃ v,e=.returned v /\ OwnG 58 3 (GlR) w.heap.size w' v xs /\ Rdw K p w' tail /\ w.grownBy w' (some p):=by
 obtain ⟨ro,rn,rc,hcell,hrx⟩:=h.ex
 have hrd:=hrx.now
 have hrl:=hrd.len
 have H:=hid h
 have HFF:=hid HF
 have HNE:=hid hne
 clear HF hne hrx
 cases xs with
 | nil =>
   have hr2:Rdw K p w tail:=h
   have HR:=hid hr2
   simp only [secE,List.nil_append] at hrd hrl
   rcases hnk with rfl | ⟨b,r,rfl,hb⟩
   ·simp at hrl
    subst hrl
    clear h hr2 hrd H
    go_enter Tryz.func113,Tryz.ntmps113
    go_wp2_with fail
    go_ret
    exact ⟨_,rfl,OwnG.nil _ _ _ _ _,HR.out,gr_refl _ _⟩
   ·have hp:0 < rn:=by rw [<- hrl];simp
    have hp':((rn:Int) == 0)=false:=by simp;omega
    have hbk:(b != kn)=true:=by simp [hb]
    obtain ⟨q,off,rfl,hc⟩:=hrd.at hp
    have hc0:=hc 0 hp
    simp only [List.getD_cons_zero,Nat.add_zero] at hc0
    clear h hr2 hrd H hc hrl hb
    go_enter Tryz.func113,Tryz.ntmps113
    go_wp2_with fail
    go_ret
    exact ⟨_,rfl,OwnG.nil _ _ _ _ _,HR.out,gr_refl _ _⟩
 | cons x l =>
   have es:secE kn f (x :: l)=kn :: szE (vecE f (x :: l)):=rfl
   rw [es,List.cons_append] at hrd hrl
   have hr0:Rdw K p w (kn :: (szE (vecE f (x :: l)) ++ tail)):=by have:=H.out;rw [es] at this;exact this
   have hp:0 < rn:=by rw [<- hrl];simp
   have hp':((rn:Int) == 0)=false:=by simp;omega
   obtain ⟨q,off,rfl,hc⟩:=hrd.at hp
   have hc0:=hc 0 hp
   simp only [List.getD_cons_zero,Nat.add_zero] at hc0
   have hpass:=wpass_to K p w _ 1 hr0 (by simp) 1 rfl
   simp only [List.drop_succ_cons,List.drop_zero] at hpass
   have HPASS:=hid hpass
   clear h hrd H hc hrl es hr0 hpass hnk
   go_enter Tryz.func113,Tryz.ntmps113
   go_wp2_with fail
   refine HPASS.out.mono ?_
   rintro e w1 ⟨rfl,hr1,hg1⟩
   have hnum:=getNumber_to K p w1 ((vecE f (x :: l)).length:Int) (vecE f (x :: l) ++ tail) (by omega) (by omega) (by unfold szE at hr1;rw [List.append_assoc] at hr1;exact hr1)
   have HNUM:=hid hnum
   have HG1:=hid hg1
   have hs1:=hg1.size
   clear hr1 hg1 hnum HPASS hc0 hcell
   go_wp2_with fail
   refine HNUM.out.mono ?_
   rintro e w2 ⟨rfl,hr2,hg2⟩
   have hvec:=gvGl_to g f K p (x :: l) tail w2 hr2 he hn HNE.out HFF.out
   have HVEC:=hid hvec
   have HG2:=hid (gr_trans HG1.out hg2)
   have hs2:=HG2.out.size
   clear hr2 hg2 hvec HNUM
   go_wp2_with fail
   refine HVEC.out.mono ?_
   rintro e w3 ⟨v,rfl,ho,hr3,hg3⟩
   have HO3:=hid (ho.lift hs2)
   have HR3:=hid hr3
   have HG3:=hid (gr_trans HG2.out hg3)
   clear ho hr3 hg3 HVEC
   go_wp2_with fail
   go_ret
   exact ⟨_,rfl,HO3.out,HR3.out,HG3.out⟩
set_option maxRecDepth 100000 in
set_option maxHeartbeats 2000000 in
theorem ptEx_to (kn:Int) (g:Nat) (f:MEx -> List Int) (K p:Nat) (xs:List (MEx)) (tail:List Int) (w:World) (h:Rdw K p w (secE kn f xs ++ tail)) (hnk:NotK kn tail) (he:∀ args w,(callFunc g args).run Tryz.prog w=.ok (.enter g args) w) (hn:xs.length <= 100000)
    (hsz:(vecE f xs).length <= 100000) (hne:∀ x ∈ xs,0 < (f x).length)
    (HF:∀ w x t,x ∈ xs -> Rdw K p w (f x ++ t) -> Calls Tryz.prog g #[rp p] w (GotEx K p w x t)) :
    Calls Tryz.prog 115 #[rp p,.int .u8 kn,.func (.func g) #[] #[]] w fun e w'=>∃ v,e=.returned v /\ OwnG 60 2 (ExR) w.heap.size w' v xs /\ Rdw K p w' tail /\ w.grownBy w' (some p):=by
 obtain ⟨ro,rn,rc,hcell,hrx⟩:=h.ex
 have hrd:=hrx.now
 have hrl:=hrd.len
 have H:=hid h
 have HFF:=hid HF
 have HNE:=hid hne
 clear HF hne hrx
 cases xs with
 | nil =>
   have hr2:Rdw K p w tail:=h
   have HR:=hid hr2
   simp only [secE,List.nil_append] at hrd hrl
   rcases hnk with rfl | ⟨b,r,rfl,hb⟩
   ·simp at hrl
    subst hrl
    clear h hr2 hrd H
    go_enter Tryz.func115,Tryz.ntmps115
    go_wp2_with fail
    go_ret
    exact ⟨_,rfl,OwnG.nil _ _ _ _ _,HR.out,gr_refl _ _⟩
   ·have hp:0 < rn:=by rw [<- hrl];simp
    have hp':((rn:Int) == 0)=false:=by simp;omega
    have hbk:(b != kn)=true:=by simp [hb]
    obtain ⟨q,off,rfl,hc⟩:=hrd.at hp
    have hc0:=hc 0 hp
    simp only [List.getD_cons_zero,Nat.add_zero] at hc0
    clear h hr2 hrd H hc hrl hb
    go_enter Tryz.func115,Tryz.ntmps115
    go_wp2_with fail
    go_ret
    exact ⟨_,rfl,OwnG.nil _ _ _ _ _,HR.out,gr_refl _ _⟩
 | cons x l =>
   have es:secE kn f (x :: l)=kn :: szE (vecE f (x :: l)):=rfl
   rw [es,List.cons_append] at hrd hrl
   have hr0:Rdw K p w (kn :: (szE (vecE f (x :: l)) ++ tail)):=by have:=H.out;rw [es] at this;exact this
   have hp:0 < rn:=by rw [<- hrl];simp
   have hp':((rn:Int) == 0)=false:=by simp;omega
   obtain ⟨q,off,rfl,hc⟩:=hrd.at hp
   have hc0:=hc 0 hp
   simp only [List.getD_cons_zero,Nat.add_zero] at hc0
   have hpass:=wpass_to K p w _ 1 hr0 (by simp) 1 rfl
   simp only [List.drop_succ_cons,List.drop_zero] at hpass
   have HPASS:=hid hpass
   clear h hrd H hc hrl es hr0 hpass hnk
   go_enter Tryz.func115,Tryz.ntmps115
   go_wp2_with fail
   refine HPASS.out.mono ?_
   rintro e w1 ⟨rfl,hr1,hg1⟩
   have hnum:=getNumber_to K p w1 ((vecE f (x :: l)).length:Int) (vecE f (x :: l) ++ tail) (by omega) (by omega) (by unfold szE at hr1;rw [List.append_assoc] at hr1;exact hr1)
   have HNUM:=hid hnum
   have HG1:=hid hg1
   have hs1:=hg1.size
   clear hr1 hg1 hnum HPASS hc0 hcell
   go_wp2_with fail
   refine HNUM.out.mono ?_
   rintro e w2 ⟨rfl,hr2,hg2⟩
   have hvec:=gvEx_to g f K p (x :: l) tail w2 hr2 he hn HNE.out HFF.out
   have HVEC:=hid hvec
   have HG2:=hid (gr_trans HG1.out hg2)
   have hs2:=HG2.out.size
   clear hr2 hg2 hvec HNUM
   go_wp2_with fail
   refine HVEC.out.mono ?_
   rintro e w3 ⟨v,rfl,ho,hr3,hg3⟩
   have HO3:=hid (ho.lift hs2)
   have HR3:=hid hr3
   have HG3:=hid (gr_trans HG2.out hg3)
   clear ho hr3 hg3 HVEC
   go_wp2_with fail
   go_ret
   exact ⟨_,rfl,HO3.out,HR3.out,HG3.out⟩
set_option maxRecDepth 100000 in
set_option maxHeartbeats 2000000 in
theorem ptEl_to (kn:Int) (g:Nat) (f:MEl -> List Int) (K p:Nat) (xs:List (MEl)) (tail:List Int) (w:World) (h:Rdw K p w (secE kn f xs ++ tail)) (hnk:NotK kn tail) (he:∀ args w,(callFunc g args).run Tryz.prog w=.ok (.enter g args) w) (hn:xs.length <= 100000)
    (hsz:(vecE f xs).length <= 100000) (hne:∀ x ∈ xs,0 < (f x).length)
    (HF:∀ w x t,x ∈ xs -> Rdw K p w (f x ++ t) -> Calls Tryz.prog g #[rp p] w (GotEl K p w x t)) :
    Calls Tryz.prog 117 #[rp p,.int .u8 kn,.func (.func g) #[] #[]] w fun e w'=>∃ v,e=.returned v /\ OwnG 67 2 (ElR) w.heap.size w' v xs /\ Rdw K p w' tail /\ w.grownBy w' (some p):=by
 obtain ⟨ro,rn,rc,hcell,hrx⟩:=h.ex
 have hrd:=hrx.now
 have hrl:=hrd.len
 have H:=hid h
 have HFF:=hid HF
 have HNE:=hid hne
 clear HF hne hrx
 cases xs with
 | nil =>
   have hr2:Rdw K p w tail:=h
   have HR:=hid hr2
   simp only [secE,List.nil_append] at hrd hrl
   rcases hnk with rfl | ⟨b,r,rfl,hb⟩
   ·simp at hrl
    subst hrl
    clear h hr2 hrd H
    go_enter Tryz.func117,Tryz.ntmps117
    go_wp2_with fail
    go_ret
    exact ⟨_,rfl,OwnG.nil _ _ _ _ _,HR.out,gr_refl _ _⟩
   ·have hp:0 < rn:=by rw [<- hrl];simp
    have hp':((rn:Int) == 0)=false:=by simp;omega
    have hbk:(b != kn)=true:=by simp [hb]
    obtain ⟨q,off,rfl,hc⟩:=hrd.at hp
    have hc0:=hc 0 hp
    simp only [List.getD_cons_zero,Nat.add_zero] at hc0
    clear h hr2 hrd H hc hrl hb
    go_enter Tryz.func117,Tryz.ntmps117
    go_wp2_with fail
    go_ret
    exact ⟨_,rfl,OwnG.nil _ _ _ _ _,HR.out,gr_refl _ _⟩
 | cons x l =>
   have es:secE kn f (x :: l)=kn :: szE (vecE f (x :: l)):=rfl
   rw [es,List.cons_append] at hrd hrl
   have hr0:Rdw K p w (kn :: (szE (vecE f (x :: l)) ++ tail)):=by have:=H.out;rw [es] at this;exact this
   have hp:0 < rn:=by rw [<- hrl];simp
   have hp':((rn:Int) == 0)=false:=by simp;omega
   obtain ⟨q,off,rfl,hc⟩:=hrd.at hp
   have hc0:=hc 0 hp
   simp only [List.getD_cons_zero,Nat.add_zero] at hc0
   have hpass:=wpass_to K p w _ 1 hr0 (by simp) 1 rfl
   simp only [List.drop_succ_cons,List.drop_zero] at hpass
   have HPASS:=hid hpass
   clear h hrd H hc hrl es hr0 hpass hnk
   go_enter Tryz.func117,Tryz.ntmps117
   go_wp2_with fail
   refine HPASS.out.mono ?_
   rintro e w1 ⟨rfl,hr1,hg1⟩
   have hnum:=getNumber_to K p w1 ((vecE f (x :: l)).length:Int) (vecE f (x :: l) ++ tail) (by omega) (by omega) (by unfold szE at hr1;rw [List.append_assoc] at hr1;exact hr1)
   have HNUM:=hid hnum
   have HG1:=hid hg1
   have hs1:=hg1.size
   clear hr1 hg1 hnum HPASS hc0 hcell
   go_wp2_with fail
   refine HNUM.out.mono ?_
   rintro e w2 ⟨rfl,hr2,hg2⟩
   have hvec:=gvEl_to g f K p (x :: l) tail w2 hr2 he hn HNE.out HFF.out
   have HVEC:=hid hvec
   have HG2:=hid (gr_trans HG1.out hg2)
   have hs2:=HG2.out.size
   clear hr2 hg2 hvec HNUM
   go_wp2_with fail
   refine HVEC.out.mono ?_
   rintro e w3 ⟨v,rfl,ho,hr3,hg3⟩
   have HO3:=hid (ho.lift hs2)
   have HR3:=hid hr3
   have HG3:=hid (gr_trans HG2.out hg3)
   clear ho hr3 hg3 HVEC
   go_wp2_with fail
   go_ret
   exact ⟨_,rfl,HO3.out,HR3.out,HG3.out⟩
set_option maxRecDepth 100000 in
set_option maxHeartbeats 2000000 in
theorem ptCo_to (kn:Int) (g:Nat) (f:MCo -> List Int) (K p:Nat) (xs:List (MCo)) (tail:List Int) (w:World) (h:Rdw K p w (secE kn f xs ++ tail)) (hnk:NotK kn tail) (he:∀ args w,(callFunc g args).run Tryz.prog w=.ok (.enter g args) w) (hn:xs.length <= 100000)
    (hsz:(vecE f xs).length <= 100000) (hne:∀ x ∈ xs,0 < (f x).length)
    (HF:∀ w x t,x ∈ xs -> Rdw K p w (f x ++ t) -> Calls Tryz.prog g #[rp p] w (GotCo K p w x t)) :
    Calls Tryz.prog 119 #[rp p,.int .u8 kn,.func (.func g) #[] #[]] w fun e w'=>∃ v,e=.returned v /\ OwnG 49 2 (CoR) w.heap.size w' v xs /\ Rdw K p w' tail /\ w.grownBy w' (some p):=by
 obtain ⟨ro,rn,rc,hcell,hrx⟩:=h.ex
 have hrd:=hrx.now
 have hrl:=hrd.len
 have H:=hid h
 have HFF:=hid HF
 have HNE:=hid hne
 clear HF hne hrx
 cases xs with
 | nil =>
   have hr2:Rdw K p w tail:=h
   have HR:=hid hr2
   simp only [secE,List.nil_append] at hrd hrl
   rcases hnk with rfl | ⟨b,r,rfl,hb⟩
   ·simp at hrl
    subst hrl
    clear h hr2 hrd H
    go_enter Tryz.func119,Tryz.ntmps119
    go_wp2_with fail
    go_ret
    exact ⟨_,rfl,OwnG.nil _ _ _ _ _,HR.out,gr_refl _ _⟩
   ·have hp:0 < rn:=by rw [<- hrl];simp
    have hp':((rn:Int) == 0)=false:=by simp;omega
    have hbk:(b != kn)=true:=by simp [hb]
    obtain ⟨q,off,rfl,hc⟩:=hrd.at hp
    have hc0:=hc 0 hp
    simp only [List.getD_cons_zero,Nat.add_zero] at hc0
    clear h hr2 hrd H hc hrl hb
    go_enter Tryz.func119,Tryz.ntmps119
    go_wp2_with fail
    go_ret
    exact ⟨_,rfl,OwnG.nil _ _ _ _ _,HR.out,gr_refl _ _⟩
 | cons x l =>
   have es:secE kn f (x :: l)=kn :: szE (vecE f (x :: l)):=rfl
   rw [es,List.cons_append] at hrd hrl
   have hr0:Rdw K p w (kn :: (szE (vecE f (x :: l)) ++ tail)):=by have:=H.out;rw [es] at this;exact this
   have hp:0 < rn:=by rw [<- hrl];simp
   have hp':((rn:Int) == 0)=false:=by simp;omega
   obtain ⟨q,off,rfl,hc⟩:=hrd.at hp
   have hc0:=hc 0 hp
   simp only [List.getD_cons_zero,Nat.add_zero] at hc0
   have hpass:=wpass_to K p w _ 1 hr0 (by simp) 1 rfl
   simp only [List.drop_succ_cons,List.drop_zero] at hpass
   have HPASS:=hid hpass
   clear h hrd H hc hrl es hr0 hpass hnk
   go_enter Tryz.func119,Tryz.ntmps119
   go_wp2_with fail
   refine HPASS.out.mono ?_
   rintro e w1 ⟨rfl,hr1,hg1⟩
   have hnum:=getNumber_to K p w1 ((vecE f (x :: l)).length:Int) (vecE f (x :: l) ++ tail) (by omega) (by omega) (by unfold szE at hr1;rw [List.append_assoc] at hr1;exact hr1)
   have HNUM:=hid hnum
   have HG1:=hid hg1
   have hs1:=hg1.size
   clear hr1 hg1 hnum HPASS hc0 hcell
   go_wp2_with fail
   refine HNUM.out.mono ?_
   rintro e w2 ⟨rfl,hr2,hg2⟩
   have hvec:=gvCo_to g f K p (x :: l) tail w2 hr2 he hn HNE.out HFF.out
   have HVEC:=hid hvec
   have HG2:=hid (gr_trans HG1.out hg2)
   have hs2:=HG2.out.size
   clear hr2 hg2 hvec HNUM
   go_wp2_with fail
   refine HVEC.out.mono ?_
   rintro e w3 ⟨v,rfl,ho,hr3,hg3⟩
   have HO3:=hid (ho.lift hs2)
   have HR3:=hid hr3
   have HG3:=hid (gr_trans HG2.out hg3)
   clear ho hr3 hg3 HVEC
   go_wp2_with fail
   go_ret
   exact ⟨_,rfl,HO3.out,HR3.out,HG3.out⟩
set_option maxRecDepth 100000 in
set_option maxHeartbeats 2000000 in
theorem ptDa_to (kn:Int) (g:Nat) (f:MDa -> List Int) (K p:Nat) (xs:List (MDa)) (tail:List Int) (w:World) (h:Rdw K p w (secE kn f xs ++ tail)) (hnk:NotK kn tail) (he:∀ args w,(callFunc g args).run Tryz.prog w=.ok (.enter g args) w) (hn:xs.length <= 100000)
    (hsz:(vecE f xs).length <= 100000) (hne:∀ x ∈ xs,0 < (f x).length)
    (HF:∀ w x t,x ∈ xs -> Rdw K p w (f x ++ t) -> Calls Tryz.prog g #[rp p] w (GotDa K p w x t)) :
    Calls Tryz.prog 121 #[rp p,.int .u8 kn,.func (.func g) #[] #[]] w fun e w'=>∃ v,e=.returned v /\ OwnG 44 2 (DaR) w.heap.size w' v xs /\ Rdw K p w' tail /\ w.grownBy w' (some p):=by
 obtain ⟨ro,rn,rc,hcell,hrx⟩:=h.ex
 have hrd:=hrx.now
 have hrl:=hrd.len
 have H:=hid h
 have HFF:=hid HF
 have HNE:=hid hne
 clear HF hne hrx
 cases xs with
 | nil =>
   have hr2:Rdw K p w tail:=h
   have HR:=hid hr2
   simp only [secE,List.nil_append] at hrd hrl
   rcases hnk with rfl | ⟨b,r,rfl,hb⟩
   ·simp at hrl
    subst hrl
    clear h hr2 hrd H
    go_enter Tryz.func121,Tryz.ntmps121
    go_wp2_with fail
    go_ret
    exact ⟨_,rfl,OwnG.nil _ _ _ _ _,HR.out,gr_refl _ _⟩
   ·have hp:0 < rn:=by rw [<- hrl];simp
    have hp':((rn:Int) == 0)=false:=by simp;omega
    have hbk:(b != kn)=true:=by simp [hb]
    obtain ⟨q,off,rfl,hc⟩:=hrd.at hp
    have hc0:=hc 0 hp
    simp only [List.getD_cons_zero,Nat.add_zero] at hc0
    clear h hr2 hrd H hc hrl hb
    go_enter Tryz.func121,Tryz.ntmps121
    go_wp2_with fail
    go_ret
    exact ⟨_,rfl,OwnG.nil _ _ _ _ _,HR.out,gr_refl _ _⟩
 | cons x l =>
   have es:secE kn f (x :: l)=kn :: szE (vecE f (x :: l)):=rfl
   rw [es,List.cons_append] at hrd hrl
   have hr0:Rdw K p w (kn :: (szE (vecE f (x :: l)) ++ tail)):=by have:=H.out;rw [es] at this;exact this
   have hp:0 < rn:=by rw [<- hrl];simp
   have hp':((rn:Int) == 0)=false:=by simp;omega
   obtain ⟨q,off,rfl,hc⟩:=hrd.at hp
   have hc0:=hc 0 hp
   simp only [List.getD_cons_zero,Nat.add_zero] at hc0
   have hpass:=wpass_to K p w _ 1 hr0 (by simp) 1 rfl
   simp only [List.drop_succ_cons,List.drop_zero] at hpass
   have HPASS:=hid hpass
   clear h hrd H hc hrl es hr0 hpass hnk
   go_enter Tryz.func121,Tryz.ntmps121
   go_wp2_with fail
   refine HPASS.out.mono ?_
   rintro e w1 ⟨rfl,hr1,hg1⟩
   have hnum:=getNumber_to K p w1 ((vecE f (x :: l)).length:Int) (vecE f (x :: l) ++ tail) (by omega) (by omega) (by unfold szE at hr1;rw [List.append_assoc] at hr1;exact hr1)
   have HNUM:=hid hnum
   have HG1:=hid hg1
   have hs1:=hg1.size
   clear hr1 hg1 hnum HPASS hc0 hcell
   go_wp2_with fail
   refine HNUM.out.mono ?_
   rintro e w2 ⟨rfl,hr2,hg2⟩
   have hvec:=gvDa_to g f K p (x :: l) tail w2 hr2 he hn HNE.out HFF.out
   have HVEC:=hid hvec
   have HG2:=hid (gr_trans HG1.out hg2)
   have hs2:=HG2.out.size
   clear hr2 hg2 hvec HNUM
   go_wp2_with fail
   refine HVEC.out.mono ?_
   rintro e w3 ⟨v,rfl,ho,hr3,hg3⟩
   have HO3:=hid (ho.lift hs2)
   have HR3:=hid hr3
   have HG3:=hid (gr_trans HG2.out hg3)
   clear ho hr3 hg3 HVEC
   go_wp2_with fail
   go_ret
   exact ⟨_,rfl,HO3.out,HR3.out,HG3.out⟩
end Go.Proofs.YtbkofpljchkkaaaGreat
