/- Words: WC. -/
import Derived.Laws.CopyOwn
import Derived.Deep.RegionLaw
import Derived.Lib.SliceRun
import Derived.Handy
import Derived.Test.YtbkofpljchkkaaaGreatWA
import Derived.Test.YtbkofpljchkkaaaGreatKD
import Derived.Test.YtbkofpljchkkaaaGreatWB
import Derived.Test.YtbkofpljchkkaaaGreatKE
set_option maxRecDepth 100000
set_option maxHeartbeats 2000000
namespace Go.Proofs.YtbkofpljchkkaaaGreat
open Go.RowKit
structure Rdw (K p:Nat) (w:World) (xs:List Int):Prop where
 le:K <= p
 lt:p < w.heap.size
 fro:w.frozen? ⟨p,0,none⟩=false
 ex:∃ ao n cap,w.cell? ⟨p,0,none⟩=some (.slice ao n cap) /\ Bx (fun b=>b < K) w fun w=>Rd .u8 w ao n cap xs
abbrev rp (p:Nat):Value:=.pointer (some ⟨p,0,none⟩)
section
variable {K p:Nat} {w w':World} {xs:List Int}
theorem Rdw.gr (h:Rdw K p w xs) {r:Option Nat} (hg:w.grownBy w' r) (hr:∀ g,r=some g -> p < g):Rdw K p w' xs:=by
 obtain ⟨ao,n,cap,hc,hx⟩:=h.ex;have hle:=h.le;have hb:∀ b,b <= p -> w'.heap[b]?=w.heap[b]?:=fun b hb=>hg.block b (Nat.lt_of_le_of_lt hb h.lt) fun e=>by have:=hr b e.symm;omega
 exact ⟨h.le,qXr h.lt hg.size,(World.frozen?_of_block (a:=⟨p,0,none⟩) (hb p (qW8 _))).trans h.fro,ao,n,cap,(World.cell?_of_block (a:=⟨p,0,none⟩) (hb p (qW8 _))).trans hc,hx.keep fun b hbk=>hb b (by omega)⟩
theorem Rdw.below (h:Rdw K p w xs) {B:Nat} (hb:Below B w w') (hB:w.heap.size <= B):Rdw K p w' xs:=h.gr (xR hb hB none) fun _ h=>by cases h
theorem Rdw.alloc (h:Rdw K p w xs) (o:Obj):Rdw K p (w.alloc o) xs:=h.below (Bl.alloc (Bl.refl w) o) (qW8 _)
theorem Rdw.set (h:Rdw K p w xs) {ao:Option Addr} {n cap:Nat} {ys:List Int} (hx:Bx (fun b=>b < K) w fun w=>Rd .u8 w ao n cap ys):Rdw K p (w.setCell ⟨p,0,none⟩ (.slice ao n cap)) ys:=by
 have hle:=h.le;obtain ⟨ao0,n0,cap0,hc,_⟩:=h.ex;have hf:=h.fro;refine ⟨h.le,by simp;exact h.lt,?_,ao,n,cap,?_,hx.keep fun b hb=>Below.heap_setCell w _ _ b (by simp only;omega)⟩
 ·go_simp
 ·go_simp
end
theorem qCr (K p:Nat) (w:World) (xs:List Int) (m:Nat) (h:Rdw K p w xs) (hm:m <= xs.length) (M:Int) (hM:M=m) :
    Calls Tryz.prog 157 #[rp p,.int .i64 M] w fun e w'=>∃ ao cap,e=.returned (.slice ao m cap) /\ (Bx (fun b=>b < K) w' fun w=>Rd .u8 w ao m cap (xs.take m)) /\ Rdw K p w' (xs.drop m) /\ w.grownBy w' (some p):=by
 subst hM
 obtain ⟨ao,n,cap,hc,hx⟩:=h.ex
 have hf:=h.fro
 have hlen:=hx.now.len
 have hle:=hx.now.le
 have hc63:=hx.now.cap63
 rw [hlen] at hm
 have hcut1:=qFx (P:=Tryz.prog) 37 qGo qGp ao n cap (m:Int) m rfl (by omega)
 have hcut2:=vR (P:=Tryz.prog) 37 qGo qGp ao n cap (m:Int) m rfl hm
 have h1:Bx (fun b=>b < K) w fun w=>Rd .u8 w ao m cap (xs.take m):=hx.imp fun _ h=>h.upto hm
 have h2:Bx (fun b=>b < K) w fun w=>Rd .u8 w (qEm ao m cap) (n - m) (cap - m) (xs.drop m):=hx.imp fun _ h=>by
  have:=h.cut m n hm (qW8 _)
  rwa [qW9 (by rw [hlen];exact qW8 _)] at this
 obtain ⟨co,hco⟩:∃ co,qEm ao m cap=co:=⟨_,rfl⟩
 obtain ⟨cn,hcn⟩:∃ cn,n - m=cn:=⟨_,rfl⟩
 obtain ⟨cc,hcc⟩:∃ cc,cap - m=cc:=⟨_,rfl⟩
 rw [hco,hcn,hcc] at h2 hcut2
 have H:=hid h
 have hle':=h.le
 have H1:=hid (h1.keep (w':=w.setCell ⟨p,0,none⟩ (.slice co cn cc)) fun b hb=>Below.heap_setCell w _ _ b (by simp only;omega))
 have H2:=hid (h.set h2)
 have hmn:(m:Int) <= n:=by omega
 clear hco hcn hcc h1 h2 hx h hlen
 go_enter Tryz.func157,Tryz.ntmps157
 go_wp2_with fail
 exact bodyPost_ret (v:=.slice ao m cap) (by simp [results,Tryz.results157,go_sem]) rfl ⟨ao,cap,rfl,H1.out,H2.out,qH w ⟨p,0,none⟩ _⟩
theorem jL (K p:Nat) (w:World) (xs:List Int) (m:Nat) (h:Rdw K p w xs) (hm:m <= xs.length) (M:Int) (hM:M=m) :
    Calls Tryz.prog 102 #[rp p,.int .i64 M] w fun e w'=>e=.returned (.tuple #[]) /\ Rdw K p w' (xs.drop m) /\ w.grownBy w' (some p):=by
 have ht:=qCr K p w xs m h hm M hM
 have HT:=hid ht
 clear ht h hM
 go_enter Tryz.func102,Tryz.ntmps102
 go_wp2_with fail
 refine HT.out.mono ?_
 rintro e w1 ⟨ao,cap,rfl,_,hr,hg⟩
 have HR:=hid hr
 have HG:=hid hg
 clear hr hg
 go_wp2_with fail
 refine bodyPost_end (results_none rfl _ _ _) rfl ?_
 exact ⟨rfl,HR.out,HG.out⟩
theorem qDo (K p:Nat) (w:World) (x:Int) (xs:List Int) (h:Rdw K p w (x :: xs)) :
    Calls Tryz.prog 166 #[rp p] w fun e w'=>e=.returned (.int .u8 x) /\ Rdw K p w' xs /\ w.grownBy w' (some p):=by
 have ht:=qCr K p w (x :: xs) 1 h (by simp) 1 rfl
 have HT:=hid ht
 clear ht h
 go_enter Tryz.func166,Tryz.ntmps166
 go_wp2_with fail
 refine HT.out.mono ?_
 rintro e w1 ⟨ao,cap,rfl,hx,hr,hg⟩
 have hn:=hx.now
 obtain ⟨b,off,rfl,hc⟩:=hn.at (by decide)
 have hc0:=hc 0 (by decide)
 have HR:=hid hr
 have HG:=hid hg
 simp only [List.take_succ_cons,List.take_zero,qXx,qXd] at hc0
 clear hr hg hx hn hc
 go_wp2_with fail
 go_ret
 exact ⟨rfl,HR.out,HG.out⟩
theorem qI (K p:Nat) (w:World) (u:Int) (xs:List Int) (h0:0 <= u) (h1:u < 4294967296) (h:Rdw K p w (jG u ++ xs)) :
    Calls Tryz.prog 108 #[rp p] w fun e w'=>e=.returned (.int .i64 u) /\ Rdw K p w' xs /\ w.grownBy w' (some p):=by
 obtain ⟨ao,n,cap,hc,hx⟩:=h.ex
 have hu:=qWh ao n cap _ 32 w hx.now (by decide) (by decide) u _ 0 (qJh u xs h0 h1)
 have hl:(qZ 9 u).length <= (jG u ++ xs).length:=by simp [jG]
 obtain ⟨m,hm⟩:∃ m,m=(qZ 9 u).length:=⟨_,rfl⟩
 rw [<- hm] at hu hl
 have hp:=jL K p w _ m h hl m rfl
 have hd:(jG u ++ xs).drop m=xs:=by rw [hm];unfold jG;simp
 rw [hd] at hp
 have hw:IntKind.i64.wrap u=u:=IntWalk.i64_in _ (by omega)
 have hw':wrap64 u=u:=qDl u (by omega) (by omega)
 have HU:=hid hu
 have HP:=hid hp
 clear hu hp hd hm h hx hl
 go_enter Tryz.func108,Tryz.ntmps108
 go_wp2_with fail
 refine HU.out.mono ?_
 rintro e w' ⟨rfl,rfl⟩
 go_wp2_with fail
 refine HP.out.mono ?_
 rintro e w1 ⟨rfl,hr,hg⟩
 have HR:=hid hr
 have HG:=hid hg
 clear hr hg
 go_wp2_with fail
 go_ret
 exact ⟨rfl,HR.out,HG.out⟩
theorem qEg (K p:Nat) (w:World) (k:Int) (xs:List Int) (hk:yG k=true) (h:Rdw K p w (kE k ++ xs)) :
    Calls Tryz.prog 160 #[rp p] w fun e w'=>e=.returned (.int .i64 k) /\ Rdw K p w' xs /\ w.grownBy w' (some p):=by
 have hone:=qDo K p w (kB k) xs h
 have HO:=hid hone
 clear hone h
 have e:k=1 ∨ k=2:=by simpa [yG] using hk
 rcases e with rfl | rfl
 ·have HO1:Hid (Calls Tryz.prog 166 #[rp p] w fun e w'=>e=.returned (.int .u8 127) /\ Rdw K p w' xs /\ w.grownBy w' (some p)):=HO
  clear HO hk;go_enter Tryz.func160,Tryz.ntmps160;go_wp2_with fail;refine HO1.out.mono ?_;rintro e w1 ⟨rfl,hr,hg⟩;have HR:=hid hr;have HG:=hid hg;clear hr hg;go_wp2_with fail;go_ret;exact ⟨rfl,HR.out,HG.out⟩
 ·have HO1:Hid (Calls Tryz.prog 166 #[rp p] w fun e w'=>e=.returned (.int .u8 126) /\ Rdw K p w' xs /\ w.grownBy w' (some p)):=HO
  clear HO hk;go_enter Tryz.func160,Tryz.ntmps160;go_wp2_with fail;refine HO1.out.mono ?_;rintro e w1 ⟨rfl,hr,hg⟩;have HR:=hid hr;have HG:=hid hg;clear hr hg;go_wp2_with fail;go_ret;exact ⟨rfl,HR.out,HG.out⟩
open Go.RowKit
theorem qR3:(Tryz.prog.info? 53).map (fun i=>(i.zero,i.size,i.bytes))=some (some (.agg #[.slice none 0 0,.slice none 0 0]),2,48):=by kernel_rfl
theorem qR4:(Tryz.prog.info? 62).map (fun i=>(i.zero,i.size,i.bytes))=some (some (.agg #[.string ⟨#[]⟩,.string ⟨#[]⟩,.int .i64 0]),3,40):=by kernel_rfl
theorem qVl:(Tryz.prog.info? 26).map (fun i=>(i.zero,i.size,i.bytes))=some (some (.agg #[.bool false,.int .i64 0,.int .i64 0]),3,24):=by kernel_rfl
theorem qR5:(Tryz.prog.info? 58).map (fun i=>(i.zero,i.size,i.bytes))=some (some (.agg #[.bool false,.int .i64 0,.int .i64 0]),3,24):=by kernel_rfl
theorem qR6:(Tryz.prog.info? 60).map (fun i=>(i.zero,i.size,i.bytes))=some (some (.agg #[.string ⟨#[]⟩,.int .i64 0]),2,24):=by kernel_rfl
theorem qR7:(Tryz.prog.info? 67).map (fun i=>(i.zero,i.size,i.bytes))=some (some (.agg #[.int .i64 0,.slice none 0 0]),2,32):=by kernel_rfl
theorem qR8:(Tryz.prog.info? 49).map (fun i=>(i.zero,i.size,i.bytes))=some (some (.agg #[.slice none 0 0,.slice none 0 0]),2,48):=by kernel_rfl
theorem qR9:(Tryz.prog.info? 44).map (fun i=>(i.zero,i.size,i.bytes))=some (some (.agg #[.int .i64 0,.slice none 0 0]),2,32):=by kernel_rfl
theorem qVm:(Tryz.prog.info? 184).map (fun i=>(i.zero,i.size,i.bytes))=some (some (.agg #[.int .i64 0,.int .i64 0]),2,16):=by kernel_rfl
theorem qTz:(Tryz.prog.info? 3).map (fun i=>(i.zero,i.size,i.bytes))=some (some (.int .i64 0),1,8):=by kernel_rfl
theorem zN {α:Type} (f:α -> List Int) (xs:List α) (k:Nat) (x:α) (hx:xs[k]?=some x):(xs.drop k).flatMap f=f x ++ (xs.drop (k + 1)).flatMap f:=by
 have hk:=(qXt.1 hx).1;rw [List.drop_eq_getElem_cons hk,List.flatMap_cons];rw [qW6 hk] at hx
 cases hx
 rfl
def _root_.Go.Value.lenN:Value -> Nat
 | .slice _ n _=>n
 | _=>0
def qWl (K p:Nat) (w:World) (x:Int) (tail:List Int) (e:Ending) (w':World):Prop :=
 ∃ cs,e=.returned ((cs.getD 0 undef)) /\ Bx (fun b=>w.heap.size <= b /\ b < w'.heap.size) w' (fun w=>IR .i64 w cs x) /\ Rdw K p w' tail /\ w.grownBy w' (some p)
theorem qOh (g:Nat) (f:Int -> List Int) (K p:Nat) (xs:List (Int)) (tail:List Int) (w:World) (h:Rdw K p w (qT f xs ++ tail)) (he:∀ args w,(callFunc g args).run Tryz.prog w=.ok (.enter g args) w) (hn:xs.length <= 100000)
    (hne:∀ x ∈ xs,0 < (f x).length)
    (HF:∀ w x t,x ∈ xs -> Rdw K p w (f x ++ t) -> Calls Tryz.prog g #[rp p] w (qWl K p w x t)) :
    Calls Tryz.prog 159 #[rp p,.func (.func g) #[] #[]] w fun e w'=>∃ v,e=.returned v /\ OwnG 3 1 (IR .i64) w.heap.size w' v xs /\ Rdw K p w' tail /\ w.grownBy w' (some p):=by
 have hnum:=qI K p w (xs.length:Int) (xs.flatMap f ++ tail) (by omega) (by omega) (by unfold qT at h;rw [qXe] at h;exact h)
 have hpw:=h.lt
 have hKp:=h.le
 have HNUM:=hid hnum
 have HFF:=hid HF
 have HNE:=hid hne
 clear h HF hne hnum
 obtain ⟨n,hnn⟩:∃ n,xs.length=n:=⟨_,rfl⟩
 rw [hnn] at HNUM hn
 have Hl:=hid hnn
 clear hnn
 go_enter Tryz.func159,Tryz.ntmps159
 go_wp2_with fail
 refine HNUM.out.mono ?_
 rintro e w0 ⟨rfl,hr0,hg0⟩
 have HR0:=hid hr0
 have HG0:=hid hg0
 clear hr0 hg0
 go_wp2_with fail
 go_loopw [6] (fun v wr=>∃ k:Nat,k <= n /\ OwnG 3 1 (IR .i64) w.heap.size wr v (xs.take k) /\ (v.lenN=k) /\ Rdw K p wr ((xs.drop k).flatMap f ++ tail) /\ w.grownBy wr (some p)) (fun v _=>n - v.lenN)
 case atStart=>exact ⟨0,qXf _,OwnG.nil _ _ _ _ _,rfl,HR0.out,HG0.out⟩
 case round =>
  obtain ⟨k,hkn,ho,hv,hr,hg⟩:=hrel;have hsz:=hg.size;have HO:=hid ho;have HR:=hid hr;have HG:=hid hg;obtain ⟨vo,vc,hve,_,_,_⟩:=ho.shape;have htl:(xs.take k).length=k:=by rw [qXu,Hl.out];omega
  rw [htl] at hve;obtain ⟨ro,rn,rc,hcell,hrx⟩:=hr.ex;have hrl:=hrx.now.len;clear ho hr hg hv;subst hve;by_cases hk:k < n
  ·obtain ⟨x,hx⟩:∃ x,xs[k]?=some x:=⟨xs[k]'(by rw [Hl.out];exact hk),qW6 (by rw [Hl.out];exact hk)⟩
   have HX:=hid (qXa hx);have hfx:=HNE.out x HX.out;have hdf:=zN f xs k x hx;have hr2:=HR.out;rw [hdf,qXe] at hr2;have hrn:0 < rn:=by rw [<- hrl,hdf];simp only [qW7];omega
   have hrn':¬ (rn:Int) <= 0:=by omega
   have htk:xs.take (k + 1)=xs.take k ++ [x]:=by rw [qXy,hx];rfl
   have HTK:=hid htk;have hcall:=HFF.out wr x _ HX.out hr2;have HCALL:=hid hcall;clear hx hfx hdf hr2 hrl hrx hcall htk;go_wp2_with fail;refine HCALL.out.mono ?_;rintro e w1 ⟨cs,rfl,hbx,hrd1,hg1⟩;obtain ⟨rfl,hw⟩:=hbx.now;have HR1:=hid hrd1;have HBX:=hid hbx;have HG1:=hid hg1;have hsz1:=hg1.size;have HO1:=hid (HO.out.kept hg1 (fun q e=>by have h:p=q:=(by simpa using e);omega));have HOLT:=hid HO.out.lt;clear hbx hrd1 hg1 hw hcell HCALL HO;skip
   go_wp2_with (at_builtin;apply jF)
   refine hid ?_
   refine qQ rfl (.tmp 21) (.tmp 25) 24 rfl _ _ Tryz.underlying24 qTz rfl (by decide) rfl (HO1.out.alloc (.cells #[.int .i64 x] 3)) (by simp;omega) w1.heap.size [.int .i64 x] rfl rfl (fun j u hu=>(Cel.new w1 [.int .i64 x] 3).cell j u hu) (by simp [Value.oneCell']) x
    (HBX.out.to (fun b hb=>Below.heap_alloc w1 _ b hb.2) (fun b hb=>⟨by omega,by simp;omega,fun e=>by have:=(HOLT.out b e).2;omega⟩)) (by rw [htl];omega) (by rw [htl];omega) ?_
   intro v2 w2 o1 o2;have HO2:=hid o1;have HG2:=hid (q8 (qU (qF HG.out HG1.out) (.cells #[.int .i64 x] 3)) o2 (fun q hq=>(HOLT.out q hq).1));have HR2:=hid ((HR1.out.alloc (.cells #[.int .i64 x] 3)).gr o2 (fun q hq=>by have:=(HOLT.out q hq).1;omega));obtain ⟨vo2,vc2,hve2,_,_,_⟩:=o1.shape;have hv2l:(xs.take k ++ [x]).length=k + 1:=by rw [qW7,htl];rfl
   rw [hv2l] at hve2;subst hve2;clear o1 o2 HBX HOLT HO1 HR1 HG1;go_wp2_with fail;go_roundw
   case rel =>
    refine ⟨k + 1,by omega,?_,rfl,HR2.out,HG2.out⟩;rw [HTK.out];exact HO2.out
   case measure=>simp [Value.lenN];omega
  ·have e0:k=n:=by omega
   subst e0;have ht:xs.take k=xs:=qW9 (by rw [Hl.out];exact qW8 _);have hd:xs.drop k=[]:=List.drop_eq_nil_of_le (by rw [Hl.out];exact qW8 _);have ha:=HO.out;have hb:=HR.out;rw [ht] at ha;rw [hd] at hb;have HA2:=hid ha;have HB2:=hid hb;clear ht ha hd hb hrx hrl;go_wp2_with fail;exact bodyPost_ret (v:=.slice vo k vc) (by simp [results,Tryz.results159,go_sem]) rfl ⟨_,rfl,HA2.out,HB2.out,HG.out⟩
def qT0 (K p:Nat) (w:World) (x:MTy) (tail:List Int) (e:Ending) (w':World):Prop :=
 ∃ cs,e=.returned (.agg cs.toArray) /\ Bx (fun b=>w.heap.size <= b /\ b < w'.heap.size) w' (fun w=>TyR w cs x) /\ Rdw K p w' tail /\ w.grownBy w' (some p)
theorem qT1 (g:Nat) (f:MTy -> List Int) (K p:Nat) (xs:List (MTy)) (tail:List Int) (w:World) (h:Rdw K p w (qT f xs ++ tail)) (he:∀ args w,(callFunc g args).run Tryz.prog w=.ok (.enter g args) w) (hn:xs.length <= 100000)
    (hne:∀ x ∈ xs,0 < (f x).length)
    (HF:∀ w x t,x ∈ xs -> Rdw K p w (f x ++ t) -> Calls Tryz.prog g #[rp p] w (qT0 K p w x t)) :
    Calls Tryz.prog 158 #[rp p,.func (.func g) #[] #[]] w fun e w'=>∃ v,e=.returned v /\ OwnG 53 2 (TyR) w.heap.size w' v xs /\ Rdw K p w' tail /\ w.grownBy w' (some p):=by
 have hnum:=qI K p w (xs.length:Int) (xs.flatMap f ++ tail) (by omega) (by omega) (by unfold qT at h;rw [qXe] at h;exact h)
 have hpw:=h.lt
 have hKp:=h.le
 have HNUM:=hid hnum
 have HFF:=hid HF
 have HNE:=hid hne
 clear h HF hne hnum
 obtain ⟨n,hnn⟩:∃ n,xs.length=n:=⟨_,rfl⟩
 rw [hnn] at HNUM hn
 have Hl:=hid hnn
 clear hnn
 go_enter Tryz.func158,Tryz.ntmps158
 go_wp2_with fail
 refine HNUM.out.mono ?_
 rintro e w0 ⟨rfl,hr0,hg0⟩
 have HR0:=hid hr0
 have HG0:=hid hg0
 clear hr0 hg0
 go_wp2_with fail
 go_loopw [6] (fun v wr=>∃ k:Nat,k <= n /\ OwnG 53 2 (TyR) w.heap.size wr v (xs.take k) /\ (v.lenN=k) /\ Rdw K p wr ((xs.drop k).flatMap f ++ tail) /\ w.grownBy wr (some p)) (fun v _=>n - v.lenN)
 case atStart=>exact ⟨0,qXf _,OwnG.nil _ _ _ _ _,rfl,HR0.out,HG0.out⟩
 case round =>
  obtain ⟨k,hkn,ho,hv,hr,hg⟩:=hrel;have hsz:=hg.size;have HO:=hid ho;have HR:=hid hr;have HG:=hid hg;obtain ⟨vo,vc,hve,_,_,_⟩:=ho.shape;have htl:(xs.take k).length=k:=by rw [qXu,Hl.out];omega
  rw [htl] at hve;obtain ⟨ro,rn,rc,hcell,hrx⟩:=hr.ex;have hrl:=hrx.now.len;clear ho hr hg hv;subst hve;by_cases hk:k < n
  ·obtain ⟨x,hx⟩:∃ x,xs[k]?=some x:=⟨xs[k]'(by rw [Hl.out];exact hk),qW6 (by rw [Hl.out];exact hk)⟩
   have HX:=hid (qXa hx);have hfx:=HNE.out x HX.out;have hdf:=zN f xs k x hx;have hr2:=HR.out;rw [hdf,qXe] at hr2;have hrn:0 < rn:=by rw [<- hrl,hdf];simp only [qW7];omega
   have hrn':¬ (rn:Int) <= 0:=by omega
   have htk:xs.take (k + 1)=xs.take k ++ [x]:=by rw [qXy,hx];rfl
   have HTK:=hid htk;have hcall:=HFF.out wr x _ HX.out hr2;have HCALL:=hid hcall;clear hx hfx hdf hr2 hrl hrx hcall htk;go_wp2_with fail;refine HCALL.out.mono ?_;rintro e w1 ⟨cs,rfl,hbx,hrd1,hg1⟩;obtain ⟨a1,n1,k1,a2,n2,k2,rfl,hr1,hr2⟩:=hbx.now;have HR1:=hid hrd1;have HBX:=hid hbx;have HG1:=hid hg1;have hsz1:=hg1.size;have HO1:=hid (HO.out.kept hg1 (fun q e=>by have h:p=q:=(by simpa using e);omega));have HOLT:=hid HO.out.lt;clear hbx hrd1 hg1 hr1 hr2 hcell HCALL HO;skip
   go_wp2_with (at_builtin;apply jF)
   refine hid ?_
   refine qQ rfl (.tmp 21) (.tmp 25) 22 rfl _ _ Tryz.underlying22 qR3 rfl (by decide) rfl (HO1.out.alloc (.cells #[.slice a1 n1 k1,.slice a2 n2 k2] 53)) (by simp;omega) w1.heap.size [.slice a1 n1 k1,.slice a2 n2 k2] rfl rfl (fun j u hu=>(Cel.new w1 [.slice a1 n1 k1,.slice a2 n2 k2] 53).cell j u hu) (by simp [Value.oneCell']) x
    (HBX.out.to (fun b hb=>Below.heap_alloc w1 _ b hb.2) (fun b hb=>⟨by omega,by simp;omega,fun e=>by have:=(HOLT.out b e).2;omega⟩)) (by rw [htl];omega) (by rw [htl];omega) ?_
   intro v2 w2 o1 o2;have HO2:=hid o1;have HG2:=hid (q8 (qU (qF HG.out HG1.out) (.cells #[.slice a1 n1 k1,.slice a2 n2 k2] 53)) o2 (fun q hq=>(HOLT.out q hq).1));have HR2:=hid ((HR1.out.alloc (.cells #[.slice a1 n1 k1,.slice a2 n2 k2] 53)).gr o2 (fun q hq=>by have:=(HOLT.out q hq).1;omega));obtain ⟨vo2,vc2,hve2,_,_,_⟩:=o1.shape;have hv2l:(xs.take k ++ [x]).length=k + 1:=by rw [qW7,htl];rfl
   rw [hv2l] at hve2;subst hve2;clear o1 o2 HBX HOLT HO1 HR1 HG1;go_wp2_with fail;go_roundw
   case rel =>
    refine ⟨k + 1,by omega,?_,rfl,HR2.out,HG2.out⟩;rw [HTK.out];exact HO2.out
   case measure=>simp [Value.lenN];omega
  ·have e0:k=n:=by omega
   subst e0;have ht:xs.take k=xs:=qW9 (by rw [Hl.out];exact qW8 _);have hd:xs.drop k=[]:=List.drop_eq_nil_of_le (by rw [Hl.out];exact qW8 _);have ha:=HO.out;have hb:=HR.out;rw [ht] at ha;rw [hd] at hb;have HA2:=hid ha;have HB2:=hid hb;clear ht ha hd hb hrx hrl;go_wp2_with fail;exact bodyPost_ret (v:=.slice vo k vc) (by simp [results,Tryz.results158,go_sem]) rfl ⟨_,rfl,HA2.out,HB2.out,HG.out⟩
def qT2 (K p:Nat) (w:World) (x:MIm) (tail:List Int) (e:Ending) (w':World):Prop :=
 ∃ cs,e=.returned (.agg cs.toArray) /\ Bx (fun b=>w.heap.size <= b /\ b < w'.heap.size) w' (fun w=>ImR w cs x) /\ Rdw K p w' tail /\ w.grownBy w' (some p)
theorem qT3 (g:Nat) (f:MIm -> List Int) (K p:Nat) (xs:List (MIm)) (tail:List Int) (w:World) (h:Rdw K p w (qT f xs ++ tail)) (he:∀ args w,(callFunc g args).run Tryz.prog w=.ok (.enter g args) w) (hn:xs.length <= 100000)
    (hne:∀ x ∈ xs,0 < (f x).length)
    (HF:∀ w x t,x ∈ xs -> Rdw K p w (f x ++ t) -> Calls Tryz.prog g #[rp p] w (qT2 K p w x t)) :
    Calls Tryz.prog 161 #[rp p,.func (.func g) #[] #[]] w fun e w'=>∃ v,e=.returned v /\ OwnG 62 3 (ImR) w.heap.size w' v xs /\ Rdw K p w' tail /\ w.grownBy w' (some p):=by
 have hnum:=qI K p w (xs.length:Int) (xs.flatMap f ++ tail) (by omega) (by omega) (by unfold qT at h;rw [qXe] at h;exact h)
 have hpw:=h.lt
 have hKp:=h.le
 have HNUM:=hid hnum
 have HFF:=hid HF
 have HNE:=hid hne
 clear h HF hne hnum
 obtain ⟨n,hnn⟩:∃ n,xs.length=n:=⟨_,rfl⟩
 rw [hnn] at HNUM hn
 have Hl:=hid hnn
 clear hnn
 go_enter Tryz.func161,Tryz.ntmps161
 go_wp2_with fail
 refine HNUM.out.mono ?_
 rintro e w0 ⟨rfl,hr0,hg0⟩
 have HR0:=hid hr0
 have HG0:=hid hg0
 clear hr0 hg0
 go_wp2_with fail
 go_loopw [6] (fun v wr=>∃ k:Nat,k <= n /\ OwnG 62 3 (ImR) w.heap.size wr v (xs.take k) /\ (v.lenN=k) /\ Rdw K p wr ((xs.drop k).flatMap f ++ tail) /\ w.grownBy wr (some p)) (fun v _=>n - v.lenN)
 case atStart=>exact ⟨0,qXf _,OwnG.nil _ _ _ _ _,rfl,HR0.out,HG0.out⟩
 case round =>
  obtain ⟨k,hkn,ho,hv,hr,hg⟩:=hrel;have hsz:=hg.size;have HO:=hid ho;have HR:=hid hr;have HG:=hid hg;obtain ⟨vo,vc,hve,_,_,_⟩:=ho.shape;have htl:(xs.take k).length=k:=by rw [qXu,Hl.out];omega
  rw [htl] at hve;obtain ⟨ro,rn,rc,hcell,hrx⟩:=hr.ex;have hrl:=hrx.now.len;clear ho hr hg hv;subst hve;by_cases hk:k < n
  ·obtain ⟨x,hx⟩:∃ x,xs[k]?=some x:=⟨xs[k]'(by rw [Hl.out];exact hk),qW6 (by rw [Hl.out];exact hk)⟩
   have HX:=hid (qXa hx);have hfx:=HNE.out x HX.out;have hdf:=zN f xs k x hx;have hr2:=HR.out;rw [hdf,qXe] at hr2;have hrn:0 < rn:=by rw [<- hrl,hdf];simp only [qW7];omega
   have hrn':¬ (rn:Int) <= 0:=by omega
   have htk:xs.take (k + 1)=xs.take k ++ [x]:=by rw [qXy,hx];rfl
   have HTK:=hid htk;have hcall:=HFF.out wr x _ HX.out hr2;have HCALL:=hid hcall;clear hx hfx hdf hr2 hrl hrx hcall htk;go_wp2_with fail;refine HCALL.out.mono ?_;rintro e w1 ⟨cs,rfl,hbx,hrd1,hg1⟩;obtain rfl:=hbx.now;have HR1:=hid hrd1;have HBX:=hid hbx;have HG1:=hid hg1;have hsz1:=hg1.size;have HO1:=hid (HO.out.kept hg1 (fun q e=>by have h:p=q:=(by simpa using e);omega));have HOLT:=hid HO.out.lt;clear hbx hrd1 hg1 hcell HCALL HO;skip
   go_wp2_with (at_builtin;apply jF)
   refine hid ?_
   refine qQ rfl (.tmp 21) (.tmp 25) 23 rfl _ _ Tryz.underlying23 qR4 rfl (by decide) rfl (HO1.out.alloc (.cells #[.string x.mod,.string x.name,.int .i64 x.typ] 62)) (by simp;omega) w1.heap.size [.string x.mod,.string x.name,.int .i64 x.typ] rfl rfl (fun j u hu=>(Cel.new w1 [.string x.mod,.string x.name,.int .i64 x.typ] 62).cell j u hu) (by simp [Value.oneCell']) x
    (HBX.out.to (fun b hb=>Below.heap_alloc w1 _ b hb.2) (fun b hb=>⟨by omega,by simp;omega,fun e=>by have:=(HOLT.out b e).2;omega⟩)) (by rw [htl];omega) (by rw [htl];omega) ?_
   intro v2 w2 o1 o2;have HO2:=hid o1;have HG2:=hid (q8 (qU (qF HG.out HG1.out) (.cells #[.string x.mod,.string x.name,.int .i64 x.typ] 62)) o2 (fun q hq=>(HOLT.out q hq).1));have HR2:=hid ((HR1.out.alloc (.cells #[.string x.mod,.string x.name,.int .i64 x.typ] 62)).gr o2 (fun q hq=>by have:=(HOLT.out q hq).1;omega));obtain ⟨vo2,vc2,hve2,_,_,_⟩:=o1.shape;have hv2l:(xs.take k ++ [x]).length=k + 1:=by rw [qW7,htl];rfl
   rw [hv2l] at hve2;subst hve2;clear o1 o2 HBX HOLT HO1 HR1 HG1;go_wp2_with fail;go_roundw
   case rel =>
    refine ⟨k + 1,by omega,?_,rfl,HR2.out,HG2.out⟩;rw [HTK.out];exact HO2.out
   case measure=>simp [Value.lenN];omega
  ·have e0:k=n:=by omega
   subst e0;have ht:xs.take k=xs:=qW9 (by rw [Hl.out];exact qW8 _);have hd:xs.drop k=[]:=List.drop_eq_nil_of_le (by rw [Hl.out];exact qW8 _);have ha:=HO.out;have hb:=HR.out;rw [ht] at ha;rw [hd] at hb;have HA2:=hid ha;have HB2:=hid hb;clear ht ha hd hb hrx hrl;go_wp2_with fail;exact bodyPost_ret (v:=.slice vo k vc) (by simp [results,Tryz.results161,go_sem]) rfl ⟨_,rfl,HA2.out,HB2.out,HG.out⟩
def qOi (K p:Nat) (w:World) (x:MLi) (tail:List Int) (e:Ending) (w':World):Prop :=
 ∃ cs,e=.returned (.agg cs.toArray) /\ Bx (fun b=>w.heap.size <= b /\ b < w'.heap.size) w' (fun w=>LiR w cs x) /\ Rdw K p w' tail /\ w.grownBy w' (some p)
theorem qT4 (g:Nat) (f:MLi -> List Int) (K p:Nat) (xs:List (MLi)) (tail:List Int) (w:World) (h:Rdw K p w (qT f xs ++ tail)) (he:∀ args w,(callFunc g args).run Tryz.prog w=.ok (.enter g args) w) (hn:xs.length <= 100000)
    (hne:∀ x ∈ xs,0 < (f x).length)
    (HF:∀ w x t,x ∈ xs -> Rdw K p w (f x ++ t) -> Calls Tryz.prog g #[rp p] w (qOi K p w x t)) :
    Calls Tryz.prog 165 #[rp p,.func (.func g) #[] #[]] w fun e w'=>∃ v,e=.returned v /\ OwnG 26 3 (LiR) w.heap.size w' v xs /\ Rdw K p w' tail /\ w.grownBy w' (some p):=by
 have hnum:=qI K p w (xs.length:Int) (xs.flatMap f ++ tail) (by omega) (by omega) (by unfold qT at h;rw [qXe] at h;exact h)
 have hpw:=h.lt
 have hKp:=h.le
 have HNUM:=hid hnum
 have HFF:=hid HF
 have HNE:=hid hne
 clear h HF hne hnum
 obtain ⟨n,hnn⟩:∃ n,xs.length=n:=⟨_,rfl⟩
 rw [hnn] at HNUM hn
 have Hl:=hid hnn
 clear hnn
 go_enter Tryz.func165,Tryz.ntmps165
 go_wp2_with fail
 refine HNUM.out.mono ?_
 rintro e w0 ⟨rfl,hr0,hg0⟩
 have HR0:=hid hr0
 have HG0:=hid hg0
 clear hr0 hg0
 go_wp2_with fail
 go_loopw [6] (fun v wr=>∃ k:Nat,k <= n /\ OwnG 26 3 (LiR) w.heap.size wr v (xs.take k) /\ (v.lenN=k) /\ Rdw K p wr ((xs.drop k).flatMap f ++ tail) /\ w.grownBy wr (some p)) (fun v _=>n - v.lenN)
 case atStart=>exact ⟨0,qXf _,OwnG.nil _ _ _ _ _,rfl,HR0.out,HG0.out⟩
 case round =>
  obtain ⟨k,hkn,ho,hv,hr,hg⟩:=hrel;have hsz:=hg.size;have HO:=hid ho;have HR:=hid hr;have HG:=hid hg;obtain ⟨vo,vc,hve,_,_,_⟩:=ho.shape;have htl:(xs.take k).length=k:=by rw [qXu,Hl.out];omega
  rw [htl] at hve;obtain ⟨ro,rn,rc,hcell,hrx⟩:=hr.ex;have hrl:=hrx.now.len;clear ho hr hg hv;subst hve;by_cases hk:k < n
  ·obtain ⟨x,hx⟩:∃ x,xs[k]?=some x:=⟨xs[k]'(by rw [Hl.out];exact hk),qW6 (by rw [Hl.out];exact hk)⟩
   have HX:=hid (qXa hx);have hfx:=HNE.out x HX.out;have hdf:=zN f xs k x hx;have hr2:=HR.out;rw [hdf,qXe] at hr2;have hrn:0 < rn:=by rw [<- hrl,hdf];simp only [qW7];omega
   have hrn':¬ (rn:Int) <= 0:=by omega
   have htk:xs.take (k + 1)=xs.take k ++ [x]:=by rw [qXy,hx];rfl
   have HTK:=hid htk;have hcall:=HFF.out wr x _ HX.out hr2;have HCALL:=hid hcall;clear hx hfx hdf hr2 hrl hrx hcall htk;go_wp2_with fail;refine HCALL.out.mono ?_;rintro e w1 ⟨cs,rfl,hbx,hrd1,hg1⟩;obtain rfl:=hbx.now;have HR1:=hid hrd1;have HBX:=hid hbx;have HG1:=hid hg1;have hsz1:=hg1.size;have HO1:=hid (HO.out.kept hg1 (fun q e=>by have h:p=q:=(by simpa using e);omega));have HOLT:=hid HO.out.lt;clear hbx hrd1 hg1 hcell HCALL HO;skip
   go_wp2_with (at_builtin;apply jF)
   refine hid ?_
   refine qQ rfl (.tmp 21) (.tmp 25) 109 rfl _ _ Tryz.underlying109 qVl rfl (by decide) rfl (HO1.out.alloc (.cells #[.bool x.has,.int .i64 x.mn,.int .i64 x.mx] 26)) (by simp;omega) w1.heap.size [.bool x.has,.int .i64 x.mn,.int .i64 x.mx] rfl rfl (fun j u hu=>(Cel.new w1 [.bool x.has,.int .i64 x.mn,.int .i64 x.mx] 26).cell j u hu) (by simp [Value.oneCell']) x
    (HBX.out.to (fun b hb=>Below.heap_alloc w1 _ b hb.2) (fun b hb=>⟨by omega,by simp;omega,fun e=>by have:=(HOLT.out b e).2;omega⟩)) (by rw [htl];omega) (by rw [htl];omega) ?_
   intro v2 w2 o1 o2;have HO2:=hid o1;have HG2:=hid (q8 (qU (qF HG.out HG1.out) (.cells #[.bool x.has,.int .i64 x.mn,.int .i64 x.mx] 26)) o2 (fun q hq=>(HOLT.out q hq).1));have HR2:=hid ((HR1.out.alloc (.cells #[.bool x.has,.int .i64 x.mn,.int .i64 x.mx] 26)).gr o2 (fun q hq=>by have:=(HOLT.out q hq).1;omega));obtain ⟨vo2,vc2,hve2,_,_,_⟩:=o1.shape;have hv2l:(xs.take k ++ [x]).length=k + 1:=by rw [qW7,htl];rfl
   rw [hv2l] at hve2;subst hve2;clear o1 o2 HBX HOLT HO1 HR1 HG1;go_wp2_with fail;go_roundw
   case rel =>
    refine ⟨k + 1,by omega,?_,rfl,HR2.out,HG2.out⟩;rw [HTK.out];exact HO2.out
   case measure=>simp [Value.lenN];omega
  ·have e0:k=n:=by omega
   subst e0;have ht:xs.take k=xs:=qW9 (by rw [Hl.out];exact qW8 _);have hd:xs.drop k=[]:=List.drop_eq_nil_of_le (by rw [Hl.out];exact qW8 _);have ha:=HO.out;have hb:=HR.out;rw [ht] at ha;rw [hd] at hb;have HA2:=hid ha;have HB2:=hid hb;clear ht ha hd hb hrx hrl;go_wp2_with fail;exact bodyPost_ret (v:=.slice vo k vc) (by simp [results,Tryz.results165,go_sem]) rfl ⟨_,rfl,HA2.out,HB2.out,HG.out⟩
def qRg (K p:Nat) (w:World) (x:MGl) (tail:List Int) (e:Ending) (w':World):Prop :=
 ∃ cs,e=.returned (.agg cs.toArray) /\ Bx (fun b=>w.heap.size <= b /\ b < w'.heap.size) w' (fun w=>GlR w cs x) /\ Rdw K p w' tail /\ w.grownBy w' (some p)
theorem qT5 (g:Nat) (f:MGl -> List Int) (K p:Nat) (xs:List (MGl)) (tail:List Int) (w:World) (h:Rdw K p w (qT f xs ++ tail)) (he:∀ args w,(callFunc g args).run Tryz.prog w=.ok (.enter g args) w) (hn:xs.length <= 100000)
    (hne:∀ x ∈ xs,0 < (f x).length)
    (HF:∀ w x t,x ∈ xs -> Rdw K p w (f x ++ t) -> Calls Tryz.prog g #[rp p] w (qRg K p w x t)) :
    Calls Tryz.prog 167 #[rp p,.func (.func g) #[] #[]] w fun e w'=>∃ v,e=.returned v /\ OwnG 58 3 (GlR) w.heap.size w' v xs /\ Rdw K p w' tail /\ w.grownBy w' (some p):=by
 have hnum:=qI K p w (xs.length:Int) (xs.flatMap f ++ tail) (by omega) (by omega) (by unfold qT at h;rw [qXe] at h;exact h)
 have hpw:=h.lt
 have hKp:=h.le
 have HNUM:=hid hnum
 have HFF:=hid HF
 have HNE:=hid hne
 clear h HF hne hnum
 obtain ⟨n,hnn⟩:∃ n,xs.length=n:=⟨_,rfl⟩
 rw [hnn] at HNUM hn
 have Hl:=hid hnn
 clear hnn
 go_enter Tryz.func167,Tryz.ntmps167
 go_wp2_with fail
 refine HNUM.out.mono ?_
 rintro e w0 ⟨rfl,hr0,hg0⟩
 have HR0:=hid hr0
 have HG0:=hid hg0
 clear hr0 hg0
 go_wp2_with fail
 go_loopw [6] (fun v wr=>∃ k:Nat,k <= n /\ OwnG 58 3 (GlR) w.heap.size wr v (xs.take k) /\ (v.lenN=k) /\ Rdw K p wr ((xs.drop k).flatMap f ++ tail) /\ w.grownBy wr (some p)) (fun v _=>n - v.lenN)
 case atStart=>exact ⟨0,qXf _,OwnG.nil _ _ _ _ _,rfl,HR0.out,HG0.out⟩
 case round =>
  obtain ⟨k,hkn,ho,hv,hr,hg⟩:=hrel;have hsz:=hg.size;have HO:=hid ho;have HR:=hid hr;have HG:=hid hg;obtain ⟨vo,vc,hve,_,_,_⟩:=ho.shape;have htl:(xs.take k).length=k:=by rw [qXu,Hl.out];omega
  rw [htl] at hve;obtain ⟨ro,rn,rc,hcell,hrx⟩:=hr.ex;have hrl:=hrx.now.len;clear ho hr hg hv;subst hve;by_cases hk:k < n
  ·obtain ⟨x,hx⟩:∃ x,xs[k]?=some x:=⟨xs[k]'(by rw [Hl.out];exact hk),qW6 (by rw [Hl.out];exact hk)⟩
   have HX:=hid (qXa hx);have hfx:=HNE.out x HX.out;have hdf:=zN f xs k x hx;have hr2:=HR.out;rw [hdf,qXe] at hr2;have hrn:0 < rn:=by rw [<- hrl,hdf];simp only [qW7];omega
   have hrn':¬ (rn:Int) <= 0:=by omega
   have htk:xs.take (k + 1)=xs.take k ++ [x]:=by rw [qXy,hx];rfl
   have HTK:=hid htk;have hcall:=HFF.out wr x _ HX.out hr2;have HCALL:=hid hcall;clear hx hfx hdf hr2 hrl hrx hcall htk;go_wp2_with fail;refine HCALL.out.mono ?_;rintro e w1 ⟨cs,rfl,hbx,hrd1,hg1⟩;obtain ⟨rfl,hy1,hy2⟩:=hbx.now;have HR1:=hid hrd1;have HBX:=hid hbx;have HG1:=hid hg1;have hsz1:=hg1.size;have HO1:=hid (HO.out.kept hg1 (fun q e=>by have h:p=q:=(by simpa using e);omega));have HOLT:=hid HO.out.lt;clear hbx hrd1 hg1 hy1 hy2 hcell HCALL HO;skip
   go_wp2_with (at_builtin;apply jF)
   refine hid ?_
   refine qQ rfl (.tmp 21) (.tmp 25) 27 rfl _ _ Tryz.underlying27 qR5 rfl (by decide) rfl (HO1.out.alloc (.cells #[.bool x.mu,.int .i64 x.kind,.int .i64 x.n] 58)) (by simp;omega) w1.heap.size [.bool x.mu,.int .i64 x.kind,.int .i64 x.n] rfl rfl (fun j u hu=>(Cel.new w1 [.bool x.mu,.int .i64 x.kind,.int .i64 x.n] 58).cell j u hu) (by simp [Value.oneCell']) x
    (HBX.out.to (fun b hb=>Below.heap_alloc w1 _ b hb.2) (fun b hb=>⟨by omega,by simp;omega,fun e=>by have:=(HOLT.out b e).2;omega⟩)) (by rw [htl];omega) (by rw [htl];omega) ?_
   intro v2 w2 o1 o2;have HO2:=hid o1;have HG2:=hid (q8 (qU (qF HG.out HG1.out) (.cells #[.bool x.mu,.int .i64 x.kind,.int .i64 x.n] 58)) o2 (fun q hq=>(HOLT.out q hq).1));have HR2:=hid ((HR1.out.alloc (.cells #[.bool x.mu,.int .i64 x.kind,.int .i64 x.n] 58)).gr o2 (fun q hq=>by have:=(HOLT.out q hq).1;omega));obtain ⟨vo2,vc2,hve2,_,_,_⟩:=o1.shape;have hv2l:(xs.take k ++ [x]).length=k + 1:=by rw [qW7,htl];rfl
   rw [hv2l] at hve2;subst hve2;clear o1 o2 HBX HOLT HO1 HR1 HG1;go_wp2_with fail;go_roundw
   case rel =>
    refine ⟨k + 1,by omega,?_,rfl,HR2.out,HG2.out⟩;rw [HTK.out];exact HO2.out
   case measure=>simp [Value.lenN];omega
  ·have e0:k=n:=by omega
   subst e0;have ht:xs.take k=xs:=qW9 (by rw [Hl.out];exact qW8 _);have hd:xs.drop k=[]:=List.drop_eq_nil_of_le (by rw [Hl.out];exact qW8 _);have ha:=HO.out;have hb:=HR.out;rw [ht] at ha;rw [hd] at hb;have HA2:=hid ha;have HB2:=hid hb;clear ht ha hd hb hrx hrl;go_wp2_with fail;exact bodyPost_ret (v:=.slice vo k vc) (by simp [results,Tryz.results167,go_sem]) rfl ⟨_,rfl,HA2.out,HB2.out,HG.out⟩
def qT6 (K p:Nat) (w:World) (x:MEx) (tail:List Int) (e:Ending) (w':World):Prop :=
 ∃ cs,e=.returned (.agg cs.toArray) /\ Bx (fun b=>w.heap.size <= b /\ b < w'.heap.size) w' (fun w=>ExR w cs x) /\ Rdw K p w' tail /\ w.grownBy w' (some p)
theorem qT7 (g:Nat) (f:MEx -> List Int) (K p:Nat) (xs:List (MEx)) (tail:List Int) (w:World) (h:Rdw K p w (qT f xs ++ tail)) (he:∀ args w,(callFunc g args).run Tryz.prog w=.ok (.enter g args) w) (hn:xs.length <= 100000)
    (hne:∀ x ∈ xs,0 < (f x).length)
    (HF:∀ w x t,x ∈ xs -> Rdw K p w (f x ++ t) -> Calls Tryz.prog g #[rp p] w (qT6 K p w x t)) :
    Calls Tryz.prog 169 #[rp p,.func (.func g) #[] #[]] w fun e w'=>∃ v,e=.returned v /\ OwnG 60 2 (ExR) w.heap.size w' v xs /\ Rdw K p w' tail /\ w.grownBy w' (some p):=by
 have hnum:=qI K p w (xs.length:Int) (xs.flatMap f ++ tail) (by omega) (by omega) (by unfold qT at h;rw [qXe] at h;exact h)
 have hpw:=h.lt
 have hKp:=h.le
 have HNUM:=hid hnum
 have HFF:=hid HF
 have HNE:=hid hne
 clear h HF hne hnum
 obtain ⟨n,hnn⟩:∃ n,xs.length=n:=⟨_,rfl⟩
 rw [hnn] at HNUM hn
 have Hl:=hid hnn
 clear hnn
 go_enter Tryz.func169,Tryz.ntmps169
 go_wp2_with fail
 refine HNUM.out.mono ?_
 rintro e w0 ⟨rfl,hr0,hg0⟩
 have HR0:=hid hr0
 have HG0:=hid hg0
 clear hr0 hg0
 go_wp2_with fail
 go_loopw [6] (fun v wr=>∃ k:Nat,k <= n /\ OwnG 60 2 (ExR) w.heap.size wr v (xs.take k) /\ (v.lenN=k) /\ Rdw K p wr ((xs.drop k).flatMap f ++ tail) /\ w.grownBy wr (some p)) (fun v _=>n - v.lenN)
 case atStart=>exact ⟨0,qXf _,OwnG.nil _ _ _ _ _,rfl,HR0.out,HG0.out⟩
 case round =>
  obtain ⟨k,hkn,ho,hv,hr,hg⟩:=hrel;have hsz:=hg.size;have HO:=hid ho;have HR:=hid hr;have HG:=hid hg;obtain ⟨vo,vc,hve,_,_,_⟩:=ho.shape;have htl:(xs.take k).length=k:=by rw [qXu,Hl.out];omega
  rw [htl] at hve;obtain ⟨ro,rn,rc,hcell,hrx⟩:=hr.ex;have hrl:=hrx.now.len;clear ho hr hg hv;subst hve;by_cases hk:k < n
  ·obtain ⟨x,hx⟩:∃ x,xs[k]?=some x:=⟨xs[k]'(by rw [Hl.out];exact hk),qW6 (by rw [Hl.out];exact hk)⟩
   have HX:=hid (qXa hx);have hfx:=HNE.out x HX.out;have hdf:=zN f xs k x hx;have hr2:=HR.out;rw [hdf,qXe] at hr2;have hrn:0 < rn:=by rw [<- hrl,hdf];simp only [qW7];omega
   have hrn':¬ (rn:Int) <= 0:=by omega
   have htk:xs.take (k + 1)=xs.take k ++ [x]:=by rw [qXy,hx];rfl
   have HTK:=hid htk;have hcall:=HFF.out wr x _ HX.out hr2;have HCALL:=hid hcall;clear hx hfx hdf hr2 hrl hrx hcall htk;go_wp2_with fail;refine HCALL.out.mono ?_;rintro e w1 ⟨cs,rfl,hbx,hrd1,hg1⟩;obtain rfl:=hbx.now;have HR1:=hid hrd1;have HBX:=hid hbx;have HG1:=hid hg1;have hsz1:=hg1.size;have HO1:=hid (HO.out.kept hg1 (fun q e=>by have h:p=q:=(by simpa using e);omega));have HOLT:=hid HO.out.lt;clear hbx hrd1 hg1 hcell HCALL HO;skip
   go_wp2_with (at_builtin;apply jF)
   refine hid ?_
   refine qQ rfl (.tmp 21) (.tmp 25) 28 rfl _ _ Tryz.underlying28 qR6 rfl (by decide) rfl (HO1.out.alloc (.cells #[.string x.name,.int .i64 x.fn] 60)) (by simp;omega) w1.heap.size [.string x.name,.int .i64 x.fn] rfl rfl (fun j u hu=>(Cel.new w1 [.string x.name,.int .i64 x.fn] 60).cell j u hu) (by simp [Value.oneCell']) x
    (HBX.out.to (fun b hb=>Below.heap_alloc w1 _ b hb.2) (fun b hb=>⟨by omega,by simp;omega,fun e=>by have:=(HOLT.out b e).2;omega⟩)) (by rw [htl];omega) (by rw [htl];omega) ?_
   intro v2 w2 o1 o2;have HO2:=hid o1;have HG2:=hid (q8 (qU (qF HG.out HG1.out) (.cells #[.string x.name,.int .i64 x.fn] 60)) o2 (fun q hq=>(HOLT.out q hq).1));have HR2:=hid ((HR1.out.alloc (.cells #[.string x.name,.int .i64 x.fn] 60)).gr o2 (fun q hq=>by have:=(HOLT.out q hq).1;omega));obtain ⟨vo2,vc2,hve2,_,_,_⟩:=o1.shape;have hv2l:(xs.take k ++ [x]).length=k + 1:=by rw [qW7,htl];rfl
   rw [hv2l] at hve2;subst hve2;clear o1 o2 HBX HOLT HO1 HR1 HG1;go_wp2_with fail;go_roundw
   case rel =>
    refine ⟨k + 1,by omega,?_,rfl,HR2.out,HG2.out⟩;rw [HTK.out];exact HO2.out
   case measure=>simp [Value.lenN];omega
  ·have e0:k=n:=by omega
   subst e0;have ht:xs.take k=xs:=qW9 (by rw [Hl.out];exact qW8 _);have hd:xs.drop k=[]:=List.drop_eq_nil_of_le (by rw [Hl.out];exact qW8 _);have ha:=HO.out;have hb:=HR.out;rw [ht] at ha;rw [hd] at hb;have HA2:=hid ha;have HB2:=hid hb;clear ht ha hd hb hrx hrl;go_wp2_with fail;exact bodyPost_ret (v:=.slice vo k vc) (by simp [results,Tryz.results169,go_sem]) rfl ⟨_,rfl,HA2.out,HB2.out,HG.out⟩
def qT8 (K p:Nat) (w:World) (x:MEl) (tail:List Int) (e:Ending) (w':World):Prop :=
 ∃ cs,e=.returned (.agg cs.toArray) /\ Bx (fun b=>w.heap.size <= b /\ b < w'.heap.size) w' (fun w=>ElR w cs x) /\ Rdw K p w' tail /\ w.grownBy w' (some p)
theorem qT9 (g:Nat) (f:MEl -> List Int) (K p:Nat) (xs:List (MEl)) (tail:List Int) (w:World) (h:Rdw K p w (qT f xs ++ tail)) (he:∀ args w,(callFunc g args).run Tryz.prog w=.ok (.enter g args) w) (hn:xs.length <= 100000)
    (hne:∀ x ∈ xs,0 < (f x).length)
    (HF:∀ w x t,x ∈ xs -> Rdw K p w (f x ++ t) -> Calls Tryz.prog g #[rp p] w (qT8 K p w x t)) :
    Calls Tryz.prog 170 #[rp p,.func (.func g) #[] #[]] w fun e w'=>∃ v,e=.returned v /\ OwnG 67 2 (ElR) w.heap.size w' v xs /\ Rdw K p w' tail /\ w.grownBy w' (some p):=by
 have hnum:=qI K p w (xs.length:Int) (xs.flatMap f ++ tail) (by omega) (by omega) (by unfold qT at h;rw [qXe] at h;exact h)
 have hpw:=h.lt
 have hKp:=h.le
 have HNUM:=hid hnum
 have HFF:=hid HF
 have HNE:=hid hne
 clear h HF hne hnum
 obtain ⟨n,hnn⟩:∃ n,xs.length=n:=⟨_,rfl⟩
 rw [hnn] at HNUM hn
 have Hl:=hid hnn
 clear hnn
 go_enter Tryz.func170,Tryz.ntmps170
 go_wp2_with fail
 refine HNUM.out.mono ?_
 rintro e w0 ⟨rfl,hr0,hg0⟩
 have HR0:=hid hr0
 have HG0:=hid hg0
 clear hr0 hg0
 go_wp2_with fail
 go_loopw [6] (fun v wr=>∃ k:Nat,k <= n /\ OwnG 67 2 (ElR) w.heap.size wr v (xs.take k) /\ (v.lenN=k) /\ Rdw K p wr ((xs.drop k).flatMap f ++ tail) /\ w.grownBy wr (some p)) (fun v _=>n - v.lenN)
 case atStart=>exact ⟨0,qXf _,OwnG.nil _ _ _ _ _,rfl,HR0.out,HG0.out⟩
 case round =>
  obtain ⟨k,hkn,ho,hv,hr,hg⟩:=hrel;have hsz:=hg.size;have HO:=hid ho;have HR:=hid hr;have HG:=hid hg;obtain ⟨vo,vc,hve,_,_,_⟩:=ho.shape;have htl:(xs.take k).length=k:=by rw [qXu,Hl.out];omega
  rw [htl] at hve;obtain ⟨ro,rn,rc,hcell,hrx⟩:=hr.ex;have hrl:=hrx.now.len;clear ho hr hg hv;subst hve;by_cases hk:k < n
  ·obtain ⟨x,hx⟩:∃ x,xs[k]?=some x:=⟨xs[k]'(by rw [Hl.out];exact hk),qW6 (by rw [Hl.out];exact hk)⟩
   have HX:=hid (qXa hx);have hfx:=HNE.out x HX.out;have hdf:=zN f xs k x hx;have hr2:=HR.out;rw [hdf,qXe] at hr2;have hrn:0 < rn:=by rw [<- hrl,hdf];simp only [qW7];omega
   have hrn':¬ (rn:Int) <= 0:=by omega
   have htk:xs.take (k + 1)=xs.take k ++ [x]:=by rw [qXy,hx];rfl
   have HTK:=hid htk;have hcall:=HFF.out wr x _ HX.out hr2;have HCALL:=hid hcall;clear hx hfx hdf hr2 hrl hrx hcall htk;go_wp2_with fail;refine HCALL.out.mono ?_;rintro e w1 ⟨cs,rfl,hbx,hrd1,hg1⟩;obtain ⟨a1,n1,k1,rfl,hr1⟩:=hbx.now;have HR1:=hid hrd1;have HBX:=hid hbx;have HG1:=hid hg1;have hsz1:=hg1.size;have HO1:=hid (HO.out.kept hg1 (fun q e=>by have h:p=q:=(by simpa using e);omega));have HOLT:=hid HO.out.lt;clear hbx hrd1 hg1 hr1 hcell HCALL HO;skip
   go_wp2_with (at_builtin;apply jF)
   refine hid ?_
   refine qQ rfl (.tmp 21) (.tmp 25) 29 rfl _ _ Tryz.underlying29 qR7 rfl (by decide) rfl (HO1.out.alloc (.cells #[.int .i64 x.off,.slice a1 n1 k1] 67)) (by simp;omega) w1.heap.size [.int .i64 x.off,.slice a1 n1 k1] rfl rfl (fun j u hu=>(Cel.new w1 [.int .i64 x.off,.slice a1 n1 k1] 67).cell j u hu) (by simp [Value.oneCell']) x
    (HBX.out.to (fun b hb=>Below.heap_alloc w1 _ b hb.2) (fun b hb=>⟨by omega,by simp;omega,fun e=>by have:=(HOLT.out b e).2;omega⟩)) (by rw [htl];omega) (by rw [htl];omega) ?_
   intro v2 w2 o1 o2;have HO2:=hid o1;have HG2:=hid (q8 (qU (qF HG.out HG1.out) (.cells #[.int .i64 x.off,.slice a1 n1 k1] 67)) o2 (fun q hq=>(HOLT.out q hq).1));have HR2:=hid ((HR1.out.alloc (.cells #[.int .i64 x.off,.slice a1 n1 k1] 67)).gr o2 (fun q hq=>by have:=(HOLT.out q hq).1;omega));obtain ⟨vo2,vc2,hve2,_,_,_⟩:=o1.shape;have hv2l:(xs.take k ++ [x]).length=k + 1:=by rw [qW7,htl];rfl
   rw [hv2l] at hve2;subst hve2;clear o1 o2 HBX HOLT HO1 HR1 HG1;go_wp2_with fail;go_roundw
   case rel =>
    refine ⟨k + 1,by omega,?_,rfl,HR2.out,HG2.out⟩;rw [HTK.out];exact HO2.out
   case measure=>simp [Value.lenN];omega
  ·have e0:k=n:=by omega
   subst e0;have ht:xs.take k=xs:=qW9 (by rw [Hl.out];exact qW8 _);have hd:xs.drop k=[]:=List.drop_eq_nil_of_le (by rw [Hl.out];exact qW8 _);have ha:=HO.out;have hb:=HR.out;rw [ht] at ha;rw [hd] at hb;have HA2:=hid ha;have HB2:=hid hb;clear ht ha hd hb hrx hrl;go_wp2_with fail;exact bodyPost_ret (v:=.slice vo k vc) (by simp [results,Tryz.results170,go_sem]) rfl ⟨_,rfl,HA2.out,HB2.out,HG.out⟩
def qUa (K p:Nat) (w:World) (x:MCo) (tail:List Int) (e:Ending) (w':World):Prop :=
 ∃ cs,e=.returned (.agg cs.toArray) /\ Bx (fun b=>w.heap.size <= b /\ b < w'.heap.size) w' (fun w=>CoR w cs x) /\ Rdw K p w' tail /\ w.grownBy w' (some p)
theorem qUb (g:Nat) (f:MCo -> List Int) (K p:Nat) (xs:List (MCo)) (tail:List Int) (w:World) (h:Rdw K p w (qT f xs ++ tail)) (he:∀ args w,(callFunc g args).run Tryz.prog w=.ok (.enter g args) w) (hn:xs.length <= 100000)
    (hne:∀ x ∈ xs,0 < (f x).length)
    (HF:∀ w x t,x ∈ xs -> Rdw K p w (f x ++ t) -> Calls Tryz.prog g #[rp p] w (qUa K p w x t)) :
    Calls Tryz.prog 172 #[rp p,.func (.func g) #[] #[]] w fun e w'=>∃ v,e=.returned v /\ OwnG 49 2 (CoR) w.heap.size w' v xs /\ Rdw K p w' tail /\ w.grownBy w' (some p):=by
 have hnum:=qI K p w (xs.length:Int) (xs.flatMap f ++ tail) (by omega) (by omega) (by unfold qT at h;rw [qXe] at h;exact h)
 have hpw:=h.lt
 have hKp:=h.le
 have HNUM:=hid hnum
 have HFF:=hid HF
 have HNE:=hid hne
 clear h HF hne hnum
 obtain ⟨n,hnn⟩:∃ n,xs.length=n:=⟨_,rfl⟩
 rw [hnn] at HNUM hn
 have Hl:=hid hnn
 clear hnn
 go_enter Tryz.func172,Tryz.ntmps172
 go_wp2_with fail
 refine HNUM.out.mono ?_
 rintro e w0 ⟨rfl,hr0,hg0⟩
 have HR0:=hid hr0
 have HG0:=hid hg0
 clear hr0 hg0
 go_wp2_with fail
 go_loopw [6] (fun v wr=>∃ k:Nat,k <= n /\ OwnG 49 2 (CoR) w.heap.size wr v (xs.take k) /\ (v.lenN=k) /\ Rdw K p wr ((xs.drop k).flatMap f ++ tail) /\ w.grownBy wr (some p)) (fun v _=>n - v.lenN)
 case atStart=>exact ⟨0,qXf _,OwnG.nil _ _ _ _ _,rfl,HR0.out,HG0.out⟩
 case round =>
  obtain ⟨k,hkn,ho,hv,hr,hg⟩:=hrel;have hsz:=hg.size;have HO:=hid ho;have HR:=hid hr;have HG:=hid hg;obtain ⟨vo,vc,hve,_,_,_⟩:=ho.shape;have htl:(xs.take k).length=k:=by rw [qXu,Hl.out];omega
  rw [htl] at hve;obtain ⟨ro,rn,rc,hcell,hrx⟩:=hr.ex;have hrl:=hrx.now.len;clear ho hr hg hv;subst hve;by_cases hk:k < n
  ·obtain ⟨x,hx⟩:∃ x,xs[k]?=some x:=⟨xs[k]'(by rw [Hl.out];exact hk),qW6 (by rw [Hl.out];exact hk)⟩
   have HX:=hid (qXa hx);have hfx:=HNE.out x HX.out;have hdf:=zN f xs k x hx;have hr2:=HR.out;rw [hdf,qXe] at hr2;have hrn:0 < rn:=by rw [<- hrl,hdf];simp only [qW7];omega
   have hrn':¬ (rn:Int) <= 0:=by omega
   have htk:xs.take (k + 1)=xs.take k ++ [x]:=by rw [qXy,hx];rfl
   have HTK:=hid htk;have hcall:=HFF.out wr x _ HX.out hr2;have HCALL:=hid hcall;clear hx hfx hdf hr2 hrl hrx hcall htk;go_wp2_with fail;refine HCALL.out.mono ?_;rintro e w1 ⟨cs,rfl,hbx,hrd1,hg1⟩;obtain ⟨a1,n1,k1,a2,n2,k2,rfl,hr1,hr2⟩:=hbx.now;have HR1:=hid hrd1;have HBX:=hid hbx;have HG1:=hid hg1;have hsz1:=hg1.size;have HO1:=hid (HO.out.kept hg1 (fun q e=>by have h:p=q:=(by simpa using e);omega));have HOLT:=hid HO.out.lt;clear hbx hrd1 hg1 hr1 hr2 hcell HCALL HO;skip
   go_wp2_with (at_builtin;apply jF)
   refine hid ?_
   refine qQ rfl (.tmp 21) (.tmp 25) 30 rfl _ _ Tryz.underlying30 qR8 rfl (by decide) rfl (HO1.out.alloc (.cells #[.slice a1 n1 k1,.slice a2 n2 k2] 49)) (by simp;omega) w1.heap.size [.slice a1 n1 k1,.slice a2 n2 k2] rfl rfl (fun j u hu=>(Cel.new w1 [.slice a1 n1 k1,.slice a2 n2 k2] 49).cell j u hu) (by simp [Value.oneCell']) x
    (HBX.out.to (fun b hb=>Below.heap_alloc w1 _ b hb.2) (fun b hb=>⟨by omega,by simp;omega,fun e=>by have:=(HOLT.out b e).2;omega⟩)) (by rw [htl];omega) (by rw [htl];omega) ?_
   intro v2 w2 o1 o2;have HO2:=hid o1;have HG2:=hid (q8 (qU (qF HG.out HG1.out) (.cells #[.slice a1 n1 k1,.slice a2 n2 k2] 49)) o2 (fun q hq=>(HOLT.out q hq).1));have HR2:=hid ((HR1.out.alloc (.cells #[.slice a1 n1 k1,.slice a2 n2 k2] 49)).gr o2 (fun q hq=>by have:=(HOLT.out q hq).1;omega));obtain ⟨vo2,vc2,hve2,_,_,_⟩:=o1.shape;have hv2l:(xs.take k ++ [x]).length=k + 1:=by rw [qW7,htl];rfl
   rw [hv2l] at hve2;subst hve2;clear o1 o2 HBX HOLT HO1 HR1 HG1;go_wp2_with fail;go_roundw
   case rel =>
    refine ⟨k + 1,by omega,?_,rfl,HR2.out,HG2.out⟩;rw [HTK.out];exact HO2.out
   case measure=>simp [Value.lenN];omega
  ·have e0:k=n:=by omega
   subst e0;have ht:xs.take k=xs:=qW9 (by rw [Hl.out];exact qW8 _);have hd:xs.drop k=[]:=List.drop_eq_nil_of_le (by rw [Hl.out];exact qW8 _);have ha:=HO.out;have hb:=HR.out;rw [ht] at ha;rw [hd] at hb;have HA2:=hid ha;have HB2:=hid hb;clear ht ha hd hb hrx hrl;go_wp2_with fail;exact bodyPost_ret (v:=.slice vo k vc) (by simp [results,Tryz.results172,go_sem]) rfl ⟨_,rfl,HA2.out,HB2.out,HG.out⟩
def qUc (K p:Nat) (w:World) (x:MDa) (tail:List Int) (e:Ending) (w':World):Prop :=
 ∃ cs,e=.returned (.agg cs.toArray) /\ Bx (fun b=>w.heap.size <= b /\ b < w'.heap.size) w' (fun w=>DaR w cs x) /\ Rdw K p w' tail /\ w.grownBy w' (some p)
theorem qUd (g:Nat) (f:MDa -> List Int) (K p:Nat) (xs:List (MDa)) (tail:List Int) (w:World) (h:Rdw K p w (qT f xs ++ tail)) (he:∀ args w,(callFunc g args).run Tryz.prog w=.ok (.enter g args) w) (hn:xs.length <= 100000)
    (hne:∀ x ∈ xs,0 < (f x).length)
    (HF:∀ w x t,x ∈ xs -> Rdw K p w (f x ++ t) -> Calls Tryz.prog g #[rp p] w (qUc K p w x t)) :
    Calls Tryz.prog 175 #[rp p,.func (.func g) #[] #[]] w fun e w'=>∃ v,e=.returned v /\ OwnG 44 2 (DaR) w.heap.size w' v xs /\ Rdw K p w' tail /\ w.grownBy w' (some p):=by
 have hnum:=qI K p w (xs.length:Int) (xs.flatMap f ++ tail) (by omega) (by omega) (by unfold qT at h;rw [qXe] at h;exact h)
 have hpw:=h.lt
 have hKp:=h.le
 have HNUM:=hid hnum
 have HFF:=hid HF
 have HNE:=hid hne
 clear h HF hne hnum
 obtain ⟨n,hnn⟩:∃ n,xs.length=n:=⟨_,rfl⟩
 rw [hnn] at HNUM hn
 have Hl:=hid hnn
 clear hnn
 go_enter Tryz.func175,Tryz.ntmps175
 go_wp2_with fail
 refine HNUM.out.mono ?_
 rintro e w0 ⟨rfl,hr0,hg0⟩
 have HR0:=hid hr0
 have HG0:=hid hg0
 clear hr0 hg0
 go_wp2_with fail
 go_loopw [6] (fun v wr=>∃ k:Nat,k <= n /\ OwnG 44 2 (DaR) w.heap.size wr v (xs.take k) /\ (v.lenN=k) /\ Rdw K p wr ((xs.drop k).flatMap f ++ tail) /\ w.grownBy wr (some p)) (fun v _=>n - v.lenN)
 case atStart=>exact ⟨0,qXf _,OwnG.nil _ _ _ _ _,rfl,HR0.out,HG0.out⟩
 case round =>
  obtain ⟨k,hkn,ho,hv,hr,hg⟩:=hrel;have hsz:=hg.size;have HO:=hid ho;have HR:=hid hr;have HG:=hid hg;obtain ⟨vo,vc,hve,_,_,_⟩:=ho.shape;have htl:(xs.take k).length=k:=by rw [qXu,Hl.out];omega
  rw [htl] at hve;obtain ⟨ro,rn,rc,hcell,hrx⟩:=hr.ex;have hrl:=hrx.now.len;clear ho hr hg hv;subst hve;by_cases hk:k < n
  ·obtain ⟨x,hx⟩:∃ x,xs[k]?=some x:=⟨xs[k]'(by rw [Hl.out];exact hk),qW6 (by rw [Hl.out];exact hk)⟩
   have HX:=hid (qXa hx);have hfx:=HNE.out x HX.out;have hdf:=zN f xs k x hx;have hr2:=HR.out;rw [hdf,qXe] at hr2;have hrn:0 < rn:=by rw [<- hrl,hdf];simp only [qW7];omega
   have hrn':¬ (rn:Int) <= 0:=by omega
   have htk:xs.take (k + 1)=xs.take k ++ [x]:=by rw [qXy,hx];rfl
   have HTK:=hid htk;have hcall:=HFF.out wr x _ HX.out hr2;have HCALL:=hid hcall;clear hx hfx hdf hr2 hrl hrx hcall htk;go_wp2_with fail;refine HCALL.out.mono ?_;rintro e w1 ⟨cs,rfl,hbx,hrd1,hg1⟩;obtain ⟨a1,n1,k1,rfl,hr1⟩:=hbx.now;have HR1:=hid hrd1;have HBX:=hid hbx;have HG1:=hid hg1;have hsz1:=hg1.size;have HO1:=hid (HO.out.kept hg1 (fun q e=>by have h:p=q:=(by simpa using e);omega));have HOLT:=hid HO.out.lt;clear hbx hrd1 hg1 hr1 hcell HCALL HO;skip
   go_wp2_with (at_builtin;apply jF)
   refine hid ?_
   refine qQ rfl (.tmp 21) (.tmp 25) 31 rfl _ _ Tryz.underlying31 qR9 rfl (by decide) rfl (HO1.out.alloc (.cells #[.int .i64 x.off,.slice a1 n1 k1] 44)) (by simp;omega) w1.heap.size [.int .i64 x.off,.slice a1 n1 k1] rfl rfl (fun j u hu=>(Cel.new w1 [.int .i64 x.off,.slice a1 n1 k1] 44).cell j u hu) (by simp [Value.oneCell']) x
    (HBX.out.to (fun b hb=>Below.heap_alloc w1 _ b hb.2) (fun b hb=>⟨by omega,by simp;omega,fun e=>by have:=(HOLT.out b e).2;omega⟩)) (by rw [htl];omega) (by rw [htl];omega) ?_
   intro v2 w2 o1 o2;have HO2:=hid o1;have HG2:=hid (q8 (qU (qF HG.out HG1.out) (.cells #[.int .i64 x.off,.slice a1 n1 k1] 44)) o2 (fun q hq=>(HOLT.out q hq).1));have HR2:=hid ((HR1.out.alloc (.cells #[.int .i64 x.off,.slice a1 n1 k1] 44)).gr o2 (fun q hq=>by have:=(HOLT.out q hq).1;omega));obtain ⟨vo2,vc2,hve2,_,_,_⟩:=o1.shape;have hv2l:(xs.take k ++ [x]).length=k + 1:=by rw [qW7,htl];rfl
   rw [hv2l] at hve2;subst hve2;clear o1 o2 HBX HOLT HO1 HR1 HG1;go_wp2_with fail;go_roundw
   case rel =>
    refine ⟨k + 1,by omega,?_,rfl,HR2.out,HG2.out⟩;rw [HTK.out];exact HO2.out
   case measure=>simp [Value.lenN];omega
  ·have e0:k=n:=by omega
   subst e0;have ht:xs.take k=xs:=qW9 (by rw [Hl.out];exact qW8 _);have hd:xs.drop k=[]:=List.drop_eq_nil_of_le (by rw [Hl.out];exact qW8 _);have ha:=HO.out;have hb:=HR.out;rw [ht] at ha;rw [hd] at hb;have HA2:=hid ha;have HB2:=hid hb;clear ht ha hd hb hrx hrl;go_wp2_with fail;exact bodyPost_ret (v:=.slice vo k vc) (by simp [results,Tryz.results175,go_sem]) rfl ⟨_,rfl,HA2.out,HB2.out,HG.out⟩
def qVn (K p:Nat) (w:World) (x:Int × Int) (tail:List Int) (e:Ending) (w':World):Prop :=
 ∃ cs,e=.returned (.agg cs.toArray) /\ Bx (fun b=>w.heap.size <= b /\ b < w'.heap.size) w' (fun w=>RuR w cs x) /\ Rdw K p w' tail /\ w.grownBy w' (some p)
theorem qUe (g:Nat) (f:Int × Int -> List Int) (K p:Nat) (xs:List (Int × Int)) (tail:List Int) (w:World) (h:Rdw K p w (qT f xs ++ tail)) (he:∀ args w,(callFunc g args).run Tryz.prog w=.ok (.enter g args) w) (hn:xs.length <= 100000)
    (hne:∀ x ∈ xs,0 < (f x).length)
    (HF:∀ w x t,x ∈ xs -> Rdw K p w (f x ++ t) -> Calls Tryz.prog g #[rp p] w (qVn K p w x t)) :
    Calls Tryz.prog 191 #[rp p,.func (.func g) #[] #[]] w fun e w'=>∃ v,e=.returned v /\ OwnG 184 2 (RuR) w.heap.size w' v xs /\ Rdw K p w' tail /\ w.grownBy w' (some p):=by
 have hnum:=qI K p w (xs.length:Int) (xs.flatMap f ++ tail) (by omega) (by omega) (by unfold qT at h;rw [qXe] at h;exact h)
 have hpw:=h.lt
 have hKp:=h.le
 have HNUM:=hid hnum
 have HFF:=hid HF
 have HNE:=hid hne
 clear h HF hne hnum
 obtain ⟨n,hnn⟩:∃ n,xs.length=n:=⟨_,rfl⟩
 rw [hnn] at HNUM hn
 have Hl:=hid hnn
 clear hnn
 go_enter Tryz.func191,Tryz.ntmps191
 go_wp2_with fail
 refine HNUM.out.mono ?_
 rintro e w0 ⟨rfl,hr0,hg0⟩
 have HR0:=hid hr0
 have HG0:=hid hg0
 clear hr0 hg0
 go_wp2_with fail
 go_loopw [6] (fun v wr=>∃ k:Nat,k <= n /\ OwnG 184 2 (RuR) w.heap.size wr v (xs.take k) /\ (v.lenN=k) /\ Rdw K p wr ((xs.drop k).flatMap f ++ tail) /\ w.grownBy wr (some p)) (fun v _=>n - v.lenN)
 case atStart=>exact ⟨0,qXf _,OwnG.nil _ _ _ _ _,rfl,HR0.out,HG0.out⟩
 case round =>
  obtain ⟨k,hkn,ho,hv,hr,hg⟩:=hrel;have hsz:=hg.size;have HO:=hid ho;have HR:=hid hr;have HG:=hid hg;obtain ⟨vo,vc,hve,_,_,_⟩:=ho.shape;have htl:(xs.take k).length=k:=by rw [qXu,Hl.out];omega
  rw [htl] at hve;obtain ⟨ro,rn,rc,hcell,hrx⟩:=hr.ex;have hrl:=hrx.now.len;clear ho hr hg hv;subst hve;by_cases hk:k < n
  ·obtain ⟨x,hx⟩:∃ x,xs[k]?=some x:=⟨xs[k]'(by rw [Hl.out];exact hk),qW6 (by rw [Hl.out];exact hk)⟩
   have HX:=hid (qXa hx);have hfx:=HNE.out x HX.out;have hdf:=zN f xs k x hx;have hr2:=HR.out;rw [hdf,qXe] at hr2;have hrn:0 < rn:=by rw [<- hrl,hdf];simp only [qW7];omega
   have hrn':¬ (rn:Int) <= 0:=by omega
   have htk:xs.take (k + 1)=xs.take k ++ [x]:=by rw [qXy,hx];rfl
   have HTK:=hid htk;have hcall:=HFF.out wr x _ HX.out hr2;have HCALL:=hid hcall;clear hx hfx hdf hr2 hrl hrx hcall htk;go_wp2_with fail;refine HCALL.out.mono ?_;rintro e w1 ⟨cs,rfl,hbx,hrd1,hg1⟩;obtain rfl:=hbx.now;have HR1:=hid hrd1;have HBX:=hid hbx;have HG1:=hid hg1;have hsz1:=hg1.size;have HO1:=hid (HO.out.kept hg1 (fun q e=>by have h:p=q:=(by simpa using e);omega));have HOLT:=hid HO.out.lt;clear hbx hrd1 hg1 hcell HCALL HO;skip
   go_wp2_with (at_builtin;apply jF)
   refine hid ?_
   refine qQ rfl (.tmp 21) (.tmp 25) 185 rfl _ _ Tryz.underlying185 qVm rfl (by decide) rfl (HO1.out.alloc (.cells #[.int .i64 x.1,.int .i64 x.2] 184)) (by simp;omega) w1.heap.size [.int .i64 x.1,.int .i64 x.2] rfl rfl (fun j u hu=>(Cel.new w1 [.int .i64 x.1,.int .i64 x.2] 184).cell j u hu) (by simp [Value.oneCell']) x
    (HBX.out.to (fun b hb=>Below.heap_alloc w1 _ b hb.2) (fun b hb=>⟨by omega,by simp;omega,fun e=>by have:=(HOLT.out b e).2;omega⟩)) (by rw [htl];omega) (by rw [htl];omega) ?_
   intro v2 w2 o1 o2;have HO2:=hid o1;have HG2:=hid (q8 (qU (qF HG.out HG1.out) (.cells #[.int .i64 x.1,.int .i64 x.2] 184)) o2 (fun q hq=>(HOLT.out q hq).1));have HR2:=hid ((HR1.out.alloc (.cells #[.int .i64 x.1,.int .i64 x.2] 184)).gr o2 (fun q hq=>by have:=(HOLT.out q hq).1;omega));obtain ⟨vo2,vc2,hve2,_,_,_⟩:=o1.shape;have hv2l:(xs.take k ++ [x]).length=k + 1:=by rw [qW7,htl];rfl
   rw [hv2l] at hve2;subst hve2;clear o1 o2 HBX HOLT HO1 HR1 HG1;go_wp2_with fail;go_roundw
   case rel =>
    refine ⟨k + 1,by omega,?_,rfl,HR2.out,HG2.out⟩;rw [HTK.out];exact HO2.out
   case measure=>simp [Value.lenN];omega
  ·have e0:k=n:=by omega
   subst e0;have ht:xs.take k=xs:=qW9 (by rw [Hl.out];exact qW8 _);have hd:xs.drop k=[]:=List.drop_eq_nil_of_le (by rw [Hl.out];exact qW8 _);have ha:=HO.out;have hb:=HR.out;rw [ht] at ha;rw [hd] at hb;have HA2:=hid ha;have HB2:=hid hb;clear ht ha hd hb hrx hrl;go_wp2_with fail;exact bodyPost_ret (v:=.slice vo k vc) (by simp [results,Tryz.results191,go_sem]) rfl ⟨_,rfl,HA2.out,HB2.out,HG.out⟩
open Go.RowKit
theorem OwnG.bxs {α:Type} {E:TypeId} {s B B0:Nat} {R:World -> List Value -> α -> Prop} {w:World} {ao:Option Addr} {n cap:Nat} {xs:List α} (h:OwnG E s R B w (.slice ao n cap) xs) (hB:B0 <= B):Bx (fun b=>B0 <= b /\ b < w.heap.size) w fun w=>RdG s R w ao n cap xs:=by
 obtain ⟨ao',cap',e,hb⟩:=h.bx;simp only [Value.slice.injEq] at e;obtain ⟨rfl,rfl,rfl⟩:=e
 exact hb.more fun b hb=>⟨by omega,hb.2⟩
theorem Own.g {E:TypeId} {k:IntKind} {B:Nat} {w:World} {v:Value} {xs:List Int} (h:Own E k B w v xs):OwnG E 1 (IR k) B w v xs:=by
 refine ⟨xs.map fun x=>[Value.int k x],by simp,⟨?_,?_⟩,fun i cs x h1 h2=>Bx.pure ?_⟩
 ·have:=h.row
  have e:(xs.map fun x=>[Value.int k x]).flatten=xs.map (Value.int k):=by
   clear this h
   induction xs with
   | nil=>rfl
   | cons x r ih=>simp [ih]
  rw [e,List.length_map];exact this
 ·intro r hr
  obtain ⟨x,_,rfl⟩:=List.mem_map.1 hr;rfl
 ·rw [List.getElem?_map,h2] at h1
  simp at h1;exact ⟨h1.symm,h.wf x (qXa h2)⟩
theorem qL2:∀ args w,(callFunc 160 args).run Tryz.prog w=.ok (.enter 160 args) w:=enters_of Tryz.func160 (by kernel_rfl) rfl
theorem qCb:∀ args w,(callFunc 108 args).run Tryz.prog w=.ok (.enter 108 args) w:=enters_of Tryz.func108 (by kernel_rfl) rfl
theorem qFp (n:Int):0 < (jG n).length:=by
 have:=qBz 9 n;unfold jG;exact List.length_pos_iff.2 this
theorem qEh (K p:Nat) (xs tail:List Int) (w:World) (h:Rdw K p w (qT kE xs ++ tail)) (hn:xs.length <= 100000) (hm:xs.all yG=true) :
    Calls Tryz.prog 159 #[rp p,.func (.func 160) #[] #[]] w fun e w'=>∃ v,e=.returned v /\ OwnG 3 1 (IR .i64) w.heap.size w' v xs /\ Rdw K p w' tail /\ w.grownBy w' (some p) :=
 qOh _ kE K p xs tail w h qL2 hn (fun _ _=>by simp [kE]) fun w x t hx hr=>by
  have hk:=qXb.1 hm x hx;refine (qEg K p w x t hk hr).mono ?_;rintro e w' ⟨rfl,hr',hg⟩;refine ⟨[.int .i64 x],rfl,Bx.pure ⟨rfl,WalkArith.wf_i64 ?_⟩,hr',hg⟩;simp [yG] at hk;omega
theorem qOj (K p:Nat) (xs tail:List Int) (w:World) (h:Rdw K p w (qT jG xs ++ tail)) (hn:xs.length <= 100000) (hm:xs.all jQ=true) :
    Calls Tryz.prog 159 #[rp p,.func (.func 108) #[] #[]] w fun e w'=>∃ v,e=.returned v /\ OwnG 3 1 (IR .i64) w.heap.size w' v xs /\ Rdw K p w' tail /\ w.grownBy w' (some p) :=
 qOh _ jG K p xs tail w h qCb hn (fun x _=>qFp x) fun w x t hx hr=>by
  have hk:=qXb.1 hm x hx;simp [jQ] at hk;refine (qI K p w x t hk.1 (by omega) hr).mono ?_;rintro e w' ⟨rfl,hr',hg⟩;exact ⟨[.int .i64 x],rfl,Bx.pure ⟨rfl,WalkArith.wf_i64 (by omega)⟩,hr',hg⟩
theorem qB4 (K p:Nat) (s:ByteArray) (tail:List Int) (w:World) (h:Rdw K p w (nmE s ++ tail)) (hs:s.size <= 1000) :
    Calls Tryz.prog 162 #[rp p] w fun e w'=>e=.returned (.string s) /\ Rdw K p w' tail /\ w.grownBy w' (some p):=by
 have hnum:=qI K p w ((nb s).length:Int) (nb s ++ tail) (by omega) (by rw [qA9];omega) (by unfold nmE szE at h;rw [qXe] at h;exact h)
 have HN:=hid hnum
 obtain ⟨n,hn⟩:∃ n,(nb s).length=n:=⟨_,rfl⟩
 rw [hn] at HN
 have HNN:=hid hn
 clear hnum h hn
 go_enter Tryz.func162,Tryz.ntmps162
 go_wp2_with fail
 refine HN.out.mono ?_
 rintro e w1 ⟨rfl,hr,hg⟩
 have ht:=qCr K p w1 _ n hr (by rw [<- HNN.out];simp) (n:Int) rfl
 have e1:(nb s ++ tail).take n=nb s:=by rw [<- HNN.out];simp
 have e2:(nb s ++ tail).drop n=tail:=by rw [<- HNN.out];simp
 rw [e1,e2] at ht
 have HT:=hid ht
 have HG:=hid hg
 clear hr hg ht e1 e2 HN
 go_wp2_with fail
 refine HT.out.mono ?_
 rintro e w2 ⟨ao,cap,rfl,hx,hr,hg⟩
 have hcv:=xP (P:=Tryz.prog) hx.now 37 9 5 Tryz.underlying37 Tryz.underlying5 Tryz.underlying9
 rw [qVd] at hcv
 have HR:=hid hr
 have HG2:=hid (qF HG.out hg)
 clear hx hr hg HT
 go_wp2_with fail
 go_ret
 exact ⟨rfl,HR.out,HG2.out⟩
theorem yQ (K p:Nat) (k n:Int) (tail:List Int) (w:World) (h:Rdw K p w (qBk k n ++ tail)) (hk:uX k n=true) (hn:-9223372036854775808 <= n /\ n <= 9223372036854775807) :
    Calls Tryz.prog 168 #[rp p] w fun e w'=>e=.returned (.agg #[.int .i64 k,.int .i64 n]) /\ Rdw K p w' tail /\ w.grownBy w' (some p):=by
 have hm:=qH7 k n hk
 unfold qBk at h
 obtain ⟨o,ho⟩:∃ o:Int,(if k=2 then 66 else 65)=o:=⟨_,rfl⟩
 rw [ho,qXe] at h
 rw [ho] at hm
 have h0:=h.alloc (.cells #[.int .i64 0,.int .i64 0] 56)
 obtain ⟨ao,rn,cap,hcell,hx⟩:=h0.ex
 have hgi:=qA5 o n 0 [] ([11] ++ tail) hm hn
 have hget:=qRq ao rn cap _ _ hx.now _ _ _ hgi
 obtain ⟨m,hmm⟩:∃ m,(uW o n 0 []).length=m:=⟨_,rfl⟩
 rw [hmm] at hget
 have HGET:=hid hget
 have HR0:=hid h0
 have HA0:=hid (Cel.new w [.int .i64 0,.int .i64 0] 56)
 have HG0:=hid (qU (qO w (some p)) (.cells #[.int .i64 0,.int .i64 0] 56))
 have HMM:=hid hmm
 have hKp:=h.le
 have hpw:=h.lt
 have hko:(k=1 /\ o=65) ∨ (k=2 /\ o=66):=by
  unfold uX at hk;by_cases h1:k=1
  ·subst h1;simp at ho;exact .inl ⟨rfl,ho.symm⟩
  ·rw [if_neg h1] at hk
   have h2:k=2:=by simpa using hk
   subst h2;simp at ho;exact .inr ⟨rfl,ho.symm⟩
 clear hget hgi h0 hx hmm h hm ho hk
 go_enter Tryz.func168,Tryz.ntmps168
 go_wp2_with fail
 refine HGET.out.mono ?_
 rintro e w1 ⟨lo,ln,lc,rfl,_,hb⟩
 have HR1:=hid ((HR0.out.below hb (qW8 _)).alloc (.cells #[.int .i64 o,.int .i64 n,.int .i64 0,.slice lo ln lc] 51))
 have HA1:=hid ((HA0.out.below (qW5 _) hb).below (qW5 _) (Bl.alloc (Bl.refl _) (.cells #[.int .i64 o,.int .i64 n,.int .i64 0,.slice lo ln lc] 51)))
 have hs0:=hb.size
 have HG1:=hid (qU (qF HG0.out (xR hb (qW8 _) (some p))) (.cells #[.int .i64 o,.int .i64 n,.int .i64 0,.slice lo ln lc] 51))
 have HX1:=hid (Cel.new w1 [.int .i64 o,.int .i64 n,.int .i64 0,.slice lo ln lc] 51)
 have hw1:w.heap.size < w1.heap.size:=by simp at hs0;omega
 have hp1:=jL K p _ _ m HR1.out (by rw [<- HMM.out];simp) (m:Int) rfl
 have e2:(uW o n 0 [] ++ ([11] ++ tail)).drop m=11 :: tail:=by rw [<- HMM.out];simp
 rw [e2] at hp1
 have HP1:=hid hp1
 clear hb hs0 hp1 e2 HGET HR0 HA0 HG0 hcell
 simp only
 go_wp2_with fail
 refine HP1.out.mono ?_
 rintro e w2 ⟨rfl,hr,hg⟩
 have hp2:=jL K p w2 _ 1 hr (by simp) 1 rfl
 simp only [qXm,qXv] at hp2
 have HP2:=hid hp2
 have HA2:=hid (HA1.out.grown (qW5 _) hg (by simp;omega))
 have HX2:=hid (HX1.out.grown (qW5 _) hg (by simp;omega))
 have HG2:=hid (qF HG1.out hg)
 clear hr hg hp2 HP1 HA1 HX1 HG1 HR1
 go_wp2_with fail
 refine HP2.out.mono ?_
 rintro e w3 ⟨rfl,hr,hg⟩
 have HA3:=hid (HA2.out.grown (qW5 _) hg (by simp;omega))
 have HX3:=hid (HX2.out.grown (qW5 _) hg (by simp;omega))
 have HG3:=hid (qF HG2.out hg)
 have HR3:=hid hr
 have x0:=HX3.out.cell 0 _ rfl
 have x1:=HX3.out.cell 1 _ rfl
 have a0:=HA3.out.cell 0 _ rfl
 have a1:=HA3.out.cell 1 _ rfl
 have fa0:=HA3.out.fro 0 _ rfl
 have fa1:=HA3.out.fro 1 _ rfl
 have hgA:w3.grownBy ((w3.setCell ⟨w.heap.size,0,none⟩ (.int .i64 k)).setCell ⟨w.heap.size,1,none⟩ (.int .i64 n)) (some w.heap.size):=qC (qC (qO _ _) 0 _) 1 _
 have HR4:=hid (HR3.out.gr hgA (fun q e=>by have h:w.heap.size=q:=(by simpa using e);omega))
 have HG4:=hid (q8 HG3.out hgA (fun q e=>by have h:w.heap.size=q:=(by simpa using e);omega))
 clear hr hg HP2 HA2 HX2 HG2 hgA HR3 HG3 HA3 HX3
 rcases hko with ⟨rfl,rfl⟩ | ⟨rfl,rfl⟩
 ·go_wp2_with fail
  exact bodyPost_ret (v:=.agg #[.int .i64 1,.int .i64 n]) (by simp [results,Tryz.results168,go_sem,a0,a1]) rfl ⟨rfl,HR4.out,HG4.out⟩
 ·go_wp2_with fail
  exact bodyPost_ret (v:=.agg #[.int .i64 2,.int .i64 n]) (by simp [results,Tryz.results168,go_sem,a0,a1]) rfl ⟨rfl,HR4.out,HG4.out⟩
theorem qHj (K p:Nat) (n:Int) (tail:List Int) (w:World) (h:Rdw K p w (qBk 1 n ++ tail)) (hn:j6 n=true) :
    Calls Tryz.prog 171 #[rp p] w fun e w'=>e=.returned (.int .i64 n) /\ Rdw K p w' tail /\ w.grownBy w' (some p):=by
 have h1:-2147483648 <= n /\ n <= 2147483647:=by simpa [j6] using hn
 have hc:=yQ K p 1 n tail w h (by simp [uX];exact h1) (by omega)
 have hw:wrap64 n=n:=qDl n (by omega) (by omega)
 have hfd:∀ w:World,(Instr.field 56 (.agg #[.int .i64 1,.int .i64 n]) 1).run Tryz.prog w=.ok (.int .i64 n) w:=fun _=>by kernel_rfl
 have HC:=hid hc
 clear hc h hn
 go_enter Tryz.func171,Tryz.ntmps171
 go_wp2_with fail
 refine HC.out.mono ?_
 rintro e w1 ⟨rfl,hr,hg⟩
 have HR:=hid hr
 have HG:=hid hg
 clear hr hg HC
 go_wp2_with fail
 go_ret
 exact ⟨rfl,HR.out,HG.out⟩
open Go.RowKit
theorem qOk (K p:Nat) (n k:Int) (tail:List Int) (w:World) (h:Rdw K p w (ruE (n,k) ++ tail)) (h0:0 <= n) (h1:n <= 1000) (hk:yG k=true):Calls Tryz.prog 192 #[rp p] w (qVn K p w (n,k) tail):=by
 have hKp:=h.le;have hpw:=h.lt;have HA:Hid (Cel (w.alloc (.cells #[.int .i64 0,.int .i64 0] 184)) w.heap.size [.int .i64 0,.int .i64 0]):=hid (Cel.new w [.int .i64 0,.int .i64 0] 184);have HR:=hid (h.alloc (.cells #[.int .i64 0,.int .i64 0] 184));have HG:=hid (qU (qO w (some p)) (.cells #[.int .i64 0,.int .i64 0] 184));have hBw:w.heap.size < (w.heap.size + 1):=by omega
 have hBp:p < (w.heap.size + 1):=by omega
 have HB:Hid (Cel ((w.alloc (.cells #[.int .i64 0,.int .i64 0] 184)).alloc (.cells #[.int .i64 0,.int .i64 0] 184)) (w.heap.size + 1) [.int .i64 0,.int .i64 0]):=hid (by have:=Cel.new (w.alloc (.cells #[.int .i64 0,.int .i64 0] 184)) [.int .i64 0,.int .i64 0] 184;simpa using this);have HA:=hid (HA.out.below (qW5 _) (Bl.alloc (Bl.refl _) (.cells #[.int .i64 0,.int .i64 0] 184)));have HR:=hid (HR.out.alloc (.cells #[.int .i64 0,.int .i64 0] 184));have HG:=hid (qU HG.out (.cells #[.int .i64 0,.int .i64 0] 184));clear h;go_enter Tryz.func192,Tryz.ntmps192;have hcall:=qI K p ((w.alloc (.cells #[.int .i64 0,.int .i64 0] 184)).alloc (.cells #[.int .i64 0,.int .i64 0] 184)) n (kE k ++ tail) h0 (by omega) (by have:=HR.out;unfold ruE at this;rw [qXe] at this;exact this);have HCALL:=hid hcall;clear hcall;go_wp2_with fail;refine HCALL.out.mono ?_;rintro e w1 ⟨rfl,hr,hg⟩;have HR:=hid hr;have HA:=hid (HA.out.grown (qW5 _) hg (by simp;omega));have HB:=hid (HB.out.grown (qW5 _) hg (by simp;omega));have HG:=hid (qF HG.out hg);have hszg:=HG.out.size;clear hr hg HCALL;have b0:=HB.out.cell 0 _ rfl;have fb0:=HB.out.fro 0 _ rfl;have b1:=HB.out.cell 1 _ rfl;have fb1:=HB.out.fro 1 _ rfl;have HB:=hid (HB.out.set 0 (.int .i64 n) (by simp));have HA:=hid (HA.out.other (show w.heap.size ≠ (w.heap.size + 1) by omega) 0 (.int .i64 n));have hg2:=qH w1 ⟨(w.heap.size + 1),0,none⟩ (.int .i64 n);have HR:=hid (HR.out.gr hg2 (fun q e=>by have h:(w.heap.size + 1)=q:=(by simpa using e);omega));have HG:=hid (q8 HG.out hg2 (fun q e=>by have h:(w.heap.size + 1)=q:=(by simpa using e);omega));clear hg2;have hcall:=qEg K p (w1.setCell ⟨(w.heap.size + 1),0,none⟩ (.int .i64 n)) k tail hk HR.out;have HCALL:=hid hcall;clear hcall;go_wp2_with fail;refine HCALL.out.mono ?_;rintro e w2 ⟨rfl,hr,hg⟩;have HR:=hid hr;have HA:=hid (HA.out.grown (qW5 _) hg (by simp;omega));have HB:=hid (HB.out.grown (qW5 _) hg (by simp;omega));have HG:=hid (qF HG.out hg);have hszg:=HG.out.size;clear hr hg HCALL;have b0:=HB.out.cell 0 _ rfl;have fb0:=HB.out.fro 0 _ rfl;have b1:=HB.out.cell 1 _ rfl;have fb1:=HB.out.fro 1 _ rfl;have a0:=HA.out.cell 0 _ rfl;have fa0:=HA.out.fro 0 _ rfl;have a1:=HA.out.cell 1 _ rfl;have fa1:=HA.out.fro 1 _ rfl;have HB:=hid (HB.out.set 1 (.int .i64 k) (by simp));have HA:=hid (HA.out.other (show w.heap.size ≠ (w.heap.size + 1) by omega) 1 (.int .i64 k));have hg2:=qH w2 ⟨(w.heap.size + 1),1,none⟩ (.int .i64 k);have HR:=hid (HR.out.gr hg2 (fun q e=>by have h:(w.heap.size + 1)=q:=(by simpa using e);omega));have HG:=hid (q8 HG.out hg2 (fun q e=>by have h:(w.heap.size + 1)=q:=(by simpa using e);omega));clear hg2
 have hgA:World.grownBy (w2.setCell ⟨(w.heap.size + 1),1,none⟩ (.int .i64 k)) (((w2.setCell ⟨(w.heap.size + 1),1,none⟩ (.int .i64 k)).setCell ⟨w.heap.size,0,none⟩ (.int .i64 n)).setCell ⟨w.heap.size,1,none⟩ (.int .i64 k)) (some w.heap.size):=(qC (qC (qO _ _) 0 _) 1 _)
 have HR:=hid (HR.out.gr hgA (fun q e=>by have h:w.heap.size=q:=(by simpa using e);omega));have HG:=hid (q8 HG.out hgA (fun q e=>by have h:w.heap.size=q:=(by simpa using e);omega));clear hgA;go_wp2_with fail;refine bodyPost_ret (v:=.agg #[.int .i64 n,.int .i64 k]) (by simp [results,Tryz.results192,go_sem,a0,a1]) rfl ⟨[.int .i64 n,.int .i64 k],rfl,?_,HR.out,HG.out⟩;exact Bx.pure rfl
theorem qHk (K p:Nat) (m s:ByteArray) (t:Int) (tail:List Int) (w:World) (h:Rdw K p w (imE ⟨m,s,t⟩ ++ tail)) (hm:m.size <= 1000) (hs:s.size <= 1000) (h0:0 <= t) (h1:t <= 1000):Calls Tryz.prog 106 #[rp p] w (qT2 K p w ⟨m,s,t⟩ tail):=by
 have hKp:=h.le;have hpw:=h.lt;have HA:Hid (Cel (w.alloc (.cells #[.string ⟨#[]⟩,.string ⟨#[]⟩,.int .i64 0] 62)) w.heap.size [.string ⟨#[]⟩,.string ⟨#[]⟩,.int .i64 0]):=hid (Cel.new w [.string ⟨#[]⟩,.string ⟨#[]⟩,.int .i64 0] 62);have HR:=hid (h.alloc (.cells #[.string ⟨#[]⟩,.string ⟨#[]⟩,.int .i64 0] 62));have HG:=hid (qU (qO w (some p)) (.cells #[.string ⟨#[]⟩,.string ⟨#[]⟩,.int .i64 0] 62));have hBw:w.heap.size < (w.heap.size + 1):=by omega
 have hBp:p < (w.heap.size + 1):=by omega
 have HB:Hid (Cel ((w.alloc (.cells #[.string ⟨#[]⟩,.string ⟨#[]⟩,.int .i64 0] 62)).alloc (.cells #[.string ⟨#[]⟩,.string ⟨#[]⟩,.int .i64 0] 62)) (w.heap.size + 1) [.string ⟨#[]⟩,.string ⟨#[]⟩,.int .i64 0]):=hid (by have:=Cel.new (w.alloc (.cells #[.string ⟨#[]⟩,.string ⟨#[]⟩,.int .i64 0] 62)) [.string ⟨#[]⟩,.string ⟨#[]⟩,.int .i64 0] 62;simpa using this);have HA:=hid (HA.out.below (qW5 _) (Bl.alloc (Bl.refl _) (.cells #[.string ⟨#[]⟩,.string ⟨#[]⟩,.int .i64 0] 62)));have HR:=hid (HR.out.alloc (.cells #[.string ⟨#[]⟩,.string ⟨#[]⟩,.int .i64 0] 62));have HG:=hid (qU HG.out (.cells #[.string ⟨#[]⟩,.string ⟨#[]⟩,.int .i64 0] 62));clear h;go_enter Tryz.func106,Tryz.ntmps106;have hcall:=qB4 K p m (nmE s ++ (0 :: (jG t ++ tail))) ((w.alloc (.cells #[.string ⟨#[]⟩,.string ⟨#[]⟩,.int .i64 0] 62)).alloc (.cells #[.string ⟨#[]⟩,.string ⟨#[]⟩,.int .i64 0] 62)) (by have:=HR.out;simpa [imE] using this) hm;have HCALL:=hid hcall;clear hcall;go_wp2_with fail;refine HCALL.out.mono ?_;rintro e w1 ⟨rfl,hr,hg⟩;have HR:=hid hr;have HA:=hid (HA.out.grown (qW5 _) hg (by simp;omega));have HB:=hid (HB.out.grown (qW5 _) hg (by simp;omega));have HG:=hid (qF HG.out hg);have hszg:=HG.out.size;clear hr hg HCALL;have b0:=HB.out.cell 0 _ rfl;have fb0:=HB.out.fro 0 _ rfl;have b1:=HB.out.cell 1 _ rfl;have fb1:=HB.out.fro 1 _ rfl;have b2:=HB.out.cell 2 _ rfl;have fb2:=HB.out.fro 2 _ rfl;have HB:=hid (HB.out.set 0 (.string m) (by simp));have HA:=hid (HA.out.other (show w.heap.size ≠ (w.heap.size + 1) by omega) 0 (.string m));have hg2:=qH w1 ⟨(w.heap.size + 1),0,none⟩ (.string m);have HR:=hid (HR.out.gr hg2 (fun q e=>by have h:(w.heap.size + 1)=q:=(by simpa using e);omega));have HG:=hid (q8 HG.out hg2 (fun q e=>by have h:(w.heap.size + 1)=q:=(by simpa using e);omega));clear hg2;have hcall:=qB4 K p s (0 :: (jG t ++ tail)) (w1.setCell ⟨(w.heap.size + 1),0,none⟩ (.string m)) HR.out hs;have HCALL:=hid hcall;clear hcall;go_wp2_with fail;refine HCALL.out.mono ?_;rintro e w2 ⟨rfl,hr,hg⟩;have HR:=hid hr;have HA:=hid (HA.out.grown (qW5 _) hg (by simp;omega));have HB:=hid (HB.out.grown (qW5 _) hg (by simp;omega));have HG:=hid (qF HG.out hg);have hszg:=HG.out.size;clear hr hg HCALL;have b0:=HB.out.cell 0 _ rfl;have fb0:=HB.out.fro 0 _ rfl;have b1:=HB.out.cell 1 _ rfl;have fb1:=HB.out.fro 1 _ rfl;have b2:=HB.out.cell 2 _ rfl;have fb2:=HB.out.fro 2 _ rfl;have HB:=hid (HB.out.set 1 (.string s) (by simp));have HA:=hid (HA.out.other (show w.heap.size ≠ (w.heap.size + 1) by omega) 1 (.string s));have hg2:=qH w2 ⟨(w.heap.size + 1),1,none⟩ (.string s);have HR:=hid (HR.out.gr hg2 (fun q e=>by have h:(w.heap.size + 1)=q:=(by simpa using e);omega));have HG:=hid (q8 HG.out hg2 (fun q e=>by have h:(w.heap.size + 1)=q:=(by simpa using e);omega));clear hg2;have hcall:=jL K p (w2.setCell ⟨(w.heap.size + 1),1,none⟩ (.string s)) (0 :: (jG t ++ tail)) 1 HR.out (by simp) 1 rfl;have HCALL:=hid hcall;clear hcall;go_wp2_with fail;refine HCALL.out.mono ?_;rintro e w3 ⟨rfl,hr,hg⟩;have HR:=hid hr;have HA:=hid (HA.out.grown (qW5 _) hg (by simp;omega));have HB:=hid (HB.out.grown (qW5 _) hg (by simp;omega));have HG:=hid (qF HG.out hg);have hszg:=HG.out.size;clear hr hg HCALL;have hcall:=qI K p w3 t tail h0 (by omega) HR.out;have HCALL:=hid hcall;clear hcall;go_wp2_with fail;refine HCALL.out.mono ?_;rintro e w4 ⟨rfl,hr,hg⟩;have HR:=hid hr;have HA:=hid (HA.out.grown (qW5 _) hg (by simp;omega));have HB:=hid (HB.out.grown (qW5 _) hg (by simp;omega));have HG:=hid (qF HG.out hg);have hszg:=HG.out.size;clear hr hg HCALL;have b0:=HB.out.cell 0 _ rfl;have fb0:=HB.out.fro 0 _ rfl;have b1:=HB.out.cell 1 _ rfl;have fb1:=HB.out.fro 1 _ rfl;have b2:=HB.out.cell 2 _ rfl;have fb2:=HB.out.fro 2 _ rfl;have a0:=HA.out.cell 0 _ rfl;have fa0:=HA.out.fro 0 _ rfl;have a1:=HA.out.cell 1 _ rfl;have fa1:=HA.out.fro 1 _ rfl;have a2:=HA.out.cell 2 _ rfl;have fa2:=HA.out.fro 2 _ rfl;have HB:=hid (HB.out.set 2 (.int .i64 t) (by simp));have HA:=hid (HA.out.other (show w.heap.size ≠ (w.heap.size + 1) by omega) 2 (.int .i64 t));have hg2:=qH w4 ⟨(w.heap.size + 1),2,none⟩ (.int .i64 t);have HR:=hid (HR.out.gr hg2 (fun q e=>by have h:(w.heap.size + 1)=q:=(by simpa using e);omega));have HG:=hid (q8 HG.out hg2 (fun q e=>by have h:(w.heap.size + 1)=q:=(by simpa using e);omega));clear hg2
 have hgA:World.grownBy (w4.setCell ⟨(w.heap.size + 1),2,none⟩ (.int .i64 t)) ((((w4.setCell ⟨(w.heap.size + 1),2,none⟩ (.int .i64 t)).setCell ⟨w.heap.size,0,none⟩ (.string m)).setCell ⟨w.heap.size,1,none⟩ (.string s)).setCell ⟨w.heap.size,2,none⟩ (.int .i64 t)) (some w.heap.size):=(qC (qC (qC (qO _ _) 0 _) 1 _) 2 _)
 have HR:=hid (HR.out.gr hgA (fun q e=>by have h:w.heap.size=q:=(by simpa using e);omega));have HG:=hid (q8 HG.out hgA (fun q e=>by have h:w.heap.size=q:=(by simpa using e);omega));clear hgA;go_wp2_with fail;refine bodyPost_ret (v:=.agg #[.string m,.string s,.int .i64 t]) (by simp [results,Tryz.results106,go_sem,a0,a1,a2]) rfl ⟨[.string m,.string s,.int .i64 t],rfl,?_,HR.out,HG.out⟩;exact Bx.pure rfl
theorem qHl (K p:Nat) (m:ByteArray) (t:Int) (tail:List Int) (w:World) (h:Rdw K p w (exE ⟨m,t⟩ ++ tail)) (hm:m.size <= 1000) (h0:0 <= t) (h1:t <= 1000):Calls Tryz.prog 116 #[rp p] w (qT6 K p w ⟨m,t⟩ tail):=by
 have hKp:=h.le;have hpw:=h.lt;have HA:Hid (Cel (w.alloc (.cells #[.string ⟨#[]⟩,.int .i64 0] 60)) w.heap.size [.string ⟨#[]⟩,.int .i64 0]):=hid (Cel.new w [.string ⟨#[]⟩,.int .i64 0] 60);have HR:=hid (h.alloc (.cells #[.string ⟨#[]⟩,.int .i64 0] 60));have HG:=hid (qU (qO w (some p)) (.cells #[.string ⟨#[]⟩,.int .i64 0] 60));have hBw:w.heap.size < (w.heap.size + 1):=by omega
 have hBp:p < (w.heap.size + 1):=by omega
 have HB:Hid (Cel ((w.alloc (.cells #[.string ⟨#[]⟩,.int .i64 0] 60)).alloc (.cells #[.string ⟨#[]⟩,.int .i64 0] 60)) (w.heap.size + 1) [.string ⟨#[]⟩,.int .i64 0]):=hid (by have:=Cel.new (w.alloc (.cells #[.string ⟨#[]⟩,.int .i64 0] 60)) [.string ⟨#[]⟩,.int .i64 0] 60;simpa using this);have HA:=hid (HA.out.below (qW5 _) (Bl.alloc (Bl.refl _) (.cells #[.string ⟨#[]⟩,.int .i64 0] 60)));have HR:=hid (HR.out.alloc (.cells #[.string ⟨#[]⟩,.int .i64 0] 60));have HG:=hid (qU HG.out (.cells #[.string ⟨#[]⟩,.int .i64 0] 60));clear h;go_enter Tryz.func116,Tryz.ntmps116;have hcall:=qB4 K p m (0 :: (jG t ++ tail)) ((w.alloc (.cells #[.string ⟨#[]⟩,.int .i64 0] 60)).alloc (.cells #[.string ⟨#[]⟩,.int .i64 0] 60)) (by have:=HR.out;simpa [exE] using this) hm;have HCALL:=hid hcall;clear hcall;go_wp2_with fail;refine HCALL.out.mono ?_;rintro e w1 ⟨rfl,hr,hg⟩;have HR:=hid hr;have HA:=hid (HA.out.grown (qW5 _) hg (by simp;omega));have HB:=hid (HB.out.grown (qW5 _) hg (by simp;omega));have HG:=hid (qF HG.out hg);have hszg:=HG.out.size;clear hr hg HCALL;have b0:=HB.out.cell 0 _ rfl;have fb0:=HB.out.fro 0 _ rfl;have b1:=HB.out.cell 1 _ rfl;have fb1:=HB.out.fro 1 _ rfl;have HB:=hid (HB.out.set 0 (.string m) (by simp));have HA:=hid (HA.out.other (show w.heap.size ≠ (w.heap.size + 1) by omega) 0 (.string m));have hg2:=qH w1 ⟨(w.heap.size + 1),0,none⟩ (.string m);have HR:=hid (HR.out.gr hg2 (fun q e=>by have h:(w.heap.size + 1)=q:=(by simpa using e);omega));have HG:=hid (q8 HG.out hg2 (fun q e=>by have h:(w.heap.size + 1)=q:=(by simpa using e);omega));clear hg2;have hcall:=jL K p (w1.setCell ⟨(w.heap.size + 1),0,none⟩ (.string m)) (0 :: (jG t ++ tail)) 1 HR.out (by simp) 1 rfl;have HCALL:=hid hcall;clear hcall;go_wp2_with fail;refine HCALL.out.mono ?_;rintro e w2 ⟨rfl,hr,hg⟩;have HR:=hid hr;have HA:=hid (HA.out.grown (qW5 _) hg (by simp;omega));have HB:=hid (HB.out.grown (qW5 _) hg (by simp;omega));have HG:=hid (qF HG.out hg);have hszg:=HG.out.size;clear hr hg HCALL;have hcall:=qI K p w2 t tail h0 (by omega) HR.out;have HCALL:=hid hcall;clear hcall;go_wp2_with fail;refine HCALL.out.mono ?_;rintro e w3 ⟨rfl,hr,hg⟩;have HR:=hid hr;have HA:=hid (HA.out.grown (qW5 _) hg (by simp;omega));have HB:=hid (HB.out.grown (qW5 _) hg (by simp;omega));have HG:=hid (qF HG.out hg);have hszg:=HG.out.size;clear hr hg HCALL;have b0:=HB.out.cell 0 _ rfl;have fb0:=HB.out.fro 0 _ rfl;have b1:=HB.out.cell 1 _ rfl;have fb1:=HB.out.fro 1 _ rfl;have a0:=HA.out.cell 0 _ rfl;have fa0:=HA.out.fro 0 _ rfl;have a1:=HA.out.cell 1 _ rfl;have fa1:=HA.out.fro 1 _ rfl;have HB:=hid (HB.out.set 1 (.int .i64 t) (by simp));have HA:=hid (HA.out.other (show w.heap.size ≠ (w.heap.size + 1) by omega) 1 (.int .i64 t));have hg2:=qH w3 ⟨(w.heap.size + 1),1,none⟩ (.int .i64 t);have HR:=hid (HR.out.gr hg2 (fun q e=>by have h:(w.heap.size + 1)=q:=(by simpa using e);omega));have HG:=hid (q8 HG.out hg2 (fun q e=>by have h:(w.heap.size + 1)=q:=(by simpa using e);omega));clear hg2
 have hgA:World.grownBy (w3.setCell ⟨(w.heap.size + 1),1,none⟩ (.int .i64 t)) (((w3.setCell ⟨(w.heap.size + 1),1,none⟩ (.int .i64 t)).setCell ⟨w.heap.size,0,none⟩ (.string m)).setCell ⟨w.heap.size,1,none⟩ (.int .i64 t)) (some w.heap.size):=(qC (qC (qO _ _) 0 _) 1 _)
 have HR:=hid (HR.out.gr hgA (fun q e=>by have h:w.heap.size=q:=(by simpa using e);omega));have HG:=hid (q8 HG.out hgA (fun q e=>by have h:w.heap.size=q:=(by simpa using e);omega));clear hgA;go_wp2_with fail;refine bodyPost_ret (v:=.agg #[.string m,.int .i64 t]) (by simp [results,Tryz.results116,go_sem,a0,a1]) rfl ⟨[.string m,.int .i64 t],rfl,?_,HR.out,HG.out⟩;exact Bx.pure rfl
theorem qL3 (K p:Nat) (ps rs:List Int) (tail:List Int) (w:World) (h:Rdw K p w (tyE ⟨ps,rs⟩ ++ tail)) (hl1:ps.length <= 100000) (hl2:rs.length <= 100000) (hm1:ps.all yG=true) (hm2:rs.all yG=true):Calls Tryz.prog 104 #[rp p] w (qT0 K p w ⟨ps,rs⟩ tail):=by
 obtain ⟨n1,hn1⟩:∃ n1,ps.length=n1:=⟨_,rfl⟩
 obtain ⟨n2,hn2⟩:∃ n2,rs.length=n2:=⟨_,rfl⟩
 have hKp:=h.le;have hpw:=h.lt;have HA:Hid (Cel (w.alloc (.cells #[.slice none 0 0,.slice none 0 0] 53)) w.heap.size [.slice none 0 0,.slice none 0 0]):=hid (Cel.new w [.slice none 0 0,.slice none 0 0] 53);have HR:=hid (h.alloc (.cells #[.slice none 0 0,.slice none 0 0] 53));have HG:=hid (qU (qO w (some p)) (.cells #[.slice none 0 0,.slice none 0 0] 53));clear h;go_enter Tryz.func104,Tryz.ntmps104;have hcall:=jL K p (w.alloc (.cells #[.slice none 0 0,.slice none 0 0] 53)) (96 :: (qT kE ps ++ (qT kE rs ++ tail))) 1 (by have:=HR.out;simpa [tyE] using this) (by simp) 1 rfl;have HCALL:=hid hcall;clear hcall;go_wp2_with fail;refine HCALL.out.mono ?_;rintro e w1 ⟨rfl,hr,hg⟩;have HR:=hid hr;have HA:=hid (HA.out.grown (qW5 _) hg (by simp;omega));have HG:=hid (qF HG.out hg);have hszg:=HG.out.size;clear hr hg HCALL;have hBw:w.heap.size < w1.heap.size:=HA.out.lt (qW5 _);have hBp:p < w1.heap.size:=by omega
 have HB:Hid (Cel (w1.alloc (.cells #[.slice none 0 0,.slice none 0 0] 53)) w1.heap.size [.slice none 0 0,.slice none 0 0]):=hid (by have:=Cel.new w1 [.slice none 0 0,.slice none 0 0] 53;simpa using this);have HA:=hid (HA.out.below (qW5 _) (Bl.alloc (Bl.refl _) (.cells #[.slice none 0 0,.slice none 0 0] 53)));have HR:=hid (HR.out.alloc (.cells #[.slice none 0 0,.slice none 0 0] 53));have HG:=hid (qU HG.out (.cells #[.slice none 0 0,.slice none 0 0] 53));have hbl:w1.heap.size + 1 <= (w1.alloc (.cells #[.slice none 0 0,.slice none 0 0] 53)).heap.size:=HB.out.lt (qW5 _);have hcall:=qEh K p ps (qT kE rs ++ tail) (w1.alloc (.cells #[.slice none 0 0,.slice none 0 0] 53)) HR.out hl1 hm1;have HCALL:=hid hcall;clear hcall;go_wp2_with fail;refine HCALL.out.mono ?_;rintro e w2 ⟨v,rfl,ho,hr,hg⟩;obtain ⟨o1,e1,rfl,_,_,_⟩:=ho.shape;rw [hn1] at ho ⊢;have HR:=hid hr;have HA:=hid (HA.out.grown (qW5 _) hg (by simp;omega));have HB:=hid (HB.out.grown (qW5 _) hg (by simp;omega));have HG:=hid (qF HG.out hg);have hszg:=HG.out.size;have HO1:=hid (ho.lift hbl);clear hr hg HCALL ho hbl;have b0:=HB.out.cell 0 _ rfl;have fb0:=HB.out.fro 0 _ rfl;have b1:=HB.out.cell 1 _ rfl;have fb1:=HB.out.fro 1 _ rfl;have HB:=hid (HB.out.set 0 (.slice o1 n1 e1) (by simp));have HA:=hid (HA.out.other (show w.heap.size ≠ w1.heap.size by omega) 0 (.slice o1 n1 e1));have hg2:=qH w2 ⟨w1.heap.size,0,none⟩ (.slice o1 n1 e1);have HR:=hid (HR.out.gr hg2 (fun q e=>by have h:w1.heap.size=q:=(by simpa using e);omega));have HG:=hid (q8 HG.out hg2 (fun q e=>by have h:w1.heap.size=q:=(by simpa using e);omega));have HO1:=hid (HO1.out.kept hg2 (fun q e=>by have h:w1.heap.size=q:=(by simpa using e);first | omega | (simp at *;omega)));clear hg2;have hbl:w1.heap.size + 1 <= (w2.setCell ⟨w1.heap.size,0,none⟩ (.slice o1 n1 e1)).heap.size:=HB.out.lt (qW5 _);have hcall:=qEh K p rs tail (w2.setCell ⟨w1.heap.size,0,none⟩ (.slice o1 n1 e1)) HR.out hl2 hm2;have HCALL:=hid hcall;clear hcall;go_wp2_with fail;refine HCALL.out.mono ?_;rintro e w3 ⟨v,rfl,ho,hr,hg⟩;obtain ⟨o2,e2,rfl,_,_,_⟩:=ho.shape;rw [hn2] at ho ⊢;have HR:=hid hr;have HA:=hid (HA.out.grown (qW5 _) hg (by simp;omega));have HB:=hid (HB.out.grown (qW5 _) hg (by simp;omega));have HO1:=hid (HO1.out.kept hg (fun q e=>by have h:p=q:=(by simpa using e);omega));have HG:=hid (qF HG.out hg);have hszg:=HG.out.size;have HO2:=hid (ho.lift hbl);clear hr hg HCALL ho hbl;have b0:=HB.out.cell 0 _ rfl;have fb0:=HB.out.fro 0 _ rfl;have b1:=HB.out.cell 1 _ rfl;have fb1:=HB.out.fro 1 _ rfl;have a0:=HA.out.cell 0 _ rfl;have fa0:=HA.out.fro 0 _ rfl;have a1:=HA.out.cell 1 _ rfl;have fa1:=HA.out.fro 1 _ rfl;have HB:=hid (HB.out.set 1 (.slice o2 n2 e2) (by simp));have HA:=hid (HA.out.other (show w.heap.size ≠ w1.heap.size by omega) 1 (.slice o2 n2 e2));have hg2:=qH w3 ⟨w1.heap.size,1,none⟩ (.slice o2 n2 e2);have HR:=hid (HR.out.gr hg2 (fun q e=>by have h:w1.heap.size=q:=(by simpa using e);omega));have HG:=hid (q8 HG.out hg2 (fun q e=>by have h:w1.heap.size=q:=(by simpa using e);omega));have HO1:=hid (HO1.out.kept hg2 (fun q e=>by have h:w1.heap.size=q:=(by simpa using e);first | omega | (simp at *;omega)));have HO2:=hid (HO2.out.kept hg2 (fun q e=>by have h:w1.heap.size=q:=(by simpa using e);first | omega | (simp at *;omega)));clear hg2
 have hgA:World.grownBy (w3.setCell ⟨w1.heap.size,1,none⟩ (.slice o2 n2 e2)) (((w3.setCell ⟨w1.heap.size,1,none⟩ (.slice o2 n2 e2)).setCell ⟨w.heap.size,0,none⟩ (.slice o1 n1 e1)).setCell ⟨w.heap.size,1,none⟩ (.slice o2 n2 e2)) (some w.heap.size):=(qC (qC (qO _ _) 0 _) 1 _)
 have HR:=hid (HR.out.gr hgA (fun q e=>by have h:w.heap.size=q:=(by simpa using e);omega));have HG:=hid (q8 HG.out hgA (fun q e=>by have h:w.heap.size=q:=(by simpa using e);omega));have HO1:=hid (HO1.out.kept hgA (fun q e=>by have h:w.heap.size=q:=(by simpa using e);omega));have HO2:=hid (HO2.out.kept hgA (fun q e=>by have h:w.heap.size=q:=(by simpa using e);omega));clear hgA;go_wp2_with fail;refine bodyPost_ret (v:=.agg #[.slice o1 n1 e1,.slice o2 n2 e2]) (by simp [results,Tryz.results104,go_sem,a0,a1]) rfl ⟨[.slice o1 n1 e1,.slice o2 n2 e2],rfl,?_,HR.out,HG.out⟩;have q1:=HO1.out.bxs (B0:=w.heap.size) (by omega);have q2:=HO2.out.bxs (B0:=w.heap.size) (by omega)
 exact fun w' h'=>⟨_,_,_,_,_,_,rfl,(q1 w' h').ints,(q2 w' h').ints⟩
theorem qL4 (K p:Nat) (o:Int) (fs:List Int) (tail:List Int) (w:World) (h:Rdw K p w (elE ⟨o,fs⟩ ++ tail)) (ho':j6 o=true) (hl1:fs.length <= 100000) (hm1:fs.all jQ=true):Calls Tryz.prog 118 #[rp p] w (qT8 K p w ⟨o,fs⟩ tail):=by
 obtain ⟨n1,hn1⟩:∃ n1,fs.length=n1:=⟨_,rfl⟩
 have hKp:=h.le;have hpw:=h.lt;have HA:Hid (Cel (w.alloc (.cells #[.int .i64 0,.slice none 0 0] 67)) w.heap.size [.int .i64 0,.slice none 0 0]):=hid (Cel.new w [.int .i64 0,.slice none 0 0] 67);have HR:=hid (h.alloc (.cells #[.int .i64 0,.slice none 0 0] 67));have HG:=hid (qU (qO w (some p)) (.cells #[.int .i64 0,.slice none 0 0] 67));clear h;go_enter Tryz.func118,Tryz.ntmps118;have hcall:=jL K p (w.alloc (.cells #[.int .i64 0,.slice none 0 0] 67)) (0 :: (qBk 1 o ++ (qT jG fs ++ tail))) 1 (by have:=HR.out;simpa [elE] using this) (by simp) 1 rfl;have HCALL:=hid hcall;clear hcall;go_wp2_with fail;refine HCALL.out.mono ?_;rintro e w1 ⟨rfl,hr,hg⟩;have HR:=hid hr;have HA:=hid (HA.out.grown (qW5 _) hg (by simp;omega));have HG:=hid (qF HG.out hg);have hszg:=HG.out.size;clear hr hg HCALL;have hBw:w.heap.size < w1.heap.size:=HA.out.lt (qW5 _);have hBp:p < w1.heap.size:=by omega
 have HB:Hid (Cel (w1.alloc (.cells #[.int .i64 0,.slice none 0 0] 67)) w1.heap.size [.int .i64 0,.slice none 0 0]):=hid (by have:=Cel.new w1 [.int .i64 0,.slice none 0 0] 67;simpa using this);have HA:=hid (HA.out.below (qW5 _) (Bl.alloc (Bl.refl _) (.cells #[.int .i64 0,.slice none 0 0] 67)));have HR:=hid (HR.out.alloc (.cells #[.int .i64 0,.slice none 0 0] 67));have HG:=hid (qU HG.out (.cells #[.int .i64 0,.slice none 0 0] 67));have hcall:=qHj K p o (qT jG fs ++ tail) (w1.alloc (.cells #[.int .i64 0,.slice none 0 0] 67)) HR.out ho';have HCALL:=hid hcall;clear hcall;go_wp2_with fail;refine HCALL.out.mono ?_;rintro e w2 ⟨rfl,hr,hg⟩;have HR:=hid hr;have HA:=hid (HA.out.grown (qW5 _) hg (by simp;omega));have HB:=hid (HB.out.grown (qW5 _) hg (by simp;omega));have HG:=hid (qF HG.out hg);have hszg:=HG.out.size;clear hr hg HCALL;have b0:=HB.out.cell 0 _ rfl;have fb0:=HB.out.fro 0 _ rfl;have b1:=HB.out.cell 1 _ rfl;have fb1:=HB.out.fro 1 _ rfl;have HB:=hid (HB.out.set 0 (.int .i64 o) (by simp));have HA:=hid (HA.out.other (show w.heap.size ≠ w1.heap.size by omega) 0 (.int .i64 o));have hg2:=qH w2 ⟨w1.heap.size,0,none⟩ (.int .i64 o);have HR:=hid (HR.out.gr hg2 (fun q e=>by have h:w1.heap.size=q:=(by simpa using e);omega));have HG:=hid (q8 HG.out hg2 (fun q e=>by have h:w1.heap.size=q:=(by simpa using e);omega));clear hg2;have hbl:w1.heap.size + 1 <= (w2.setCell ⟨w1.heap.size,0,none⟩ (.int .i64 o)).heap.size:=HB.out.lt (qW5 _);have hcall:=qOj K p fs tail (w2.setCell ⟨w1.heap.size,0,none⟩ (.int .i64 o)) HR.out hl1 hm1;have HCALL:=hid hcall;clear hcall;go_wp2_with fail;refine HCALL.out.mono ?_;rintro e w3 ⟨v,rfl,ho,hr,hg⟩;obtain ⟨o1,e1,rfl,_,_,_⟩:=ho.shape;rw [hn1] at ho ⊢;have HR:=hid hr;have HA:=hid (HA.out.grown (qW5 _) hg (by simp;omega));have HB:=hid (HB.out.grown (qW5 _) hg (by simp;omega));have HG:=hid (qF HG.out hg);have hszg:=HG.out.size;have HO1:=hid (ho.lift hbl);clear hr hg HCALL ho hbl;have b0:=HB.out.cell 0 _ rfl;have fb0:=HB.out.fro 0 _ rfl;have b1:=HB.out.cell 1 _ rfl;have fb1:=HB.out.fro 1 _ rfl;have a0:=HA.out.cell 0 _ rfl;have fa0:=HA.out.fro 0 _ rfl;have a1:=HA.out.cell 1 _ rfl;have fa1:=HA.out.fro 1 _ rfl;have HB:=hid (HB.out.set 1 (.slice o1 n1 e1) (by simp));have HA:=hid (HA.out.other (show w.heap.size ≠ w1.heap.size by omega) 1 (.slice o1 n1 e1));have hg2:=qH w3 ⟨w1.heap.size,1,none⟩ (.slice o1 n1 e1);have HR:=hid (HR.out.gr hg2 (fun q e=>by have h:w1.heap.size=q:=(by simpa using e);omega));have HG:=hid (q8 HG.out hg2 (fun q e=>by have h:w1.heap.size=q:=(by simpa using e);omega));have HO1:=hid (HO1.out.kept hg2 (fun q e=>by have h:w1.heap.size=q:=(by simpa using e);first | omega | (simp at *;omega)));clear hg2
 have hgA:World.grownBy (w3.setCell ⟨w1.heap.size,1,none⟩ (.slice o1 n1 e1)) (((w3.setCell ⟨w1.heap.size,1,none⟩ (.slice o1 n1 e1)).setCell ⟨w.heap.size,0,none⟩ (.int .i64 o)).setCell ⟨w.heap.size,1,none⟩ (.slice o1 n1 e1)) (some w.heap.size):=(qC (qC (qO _ _) 0 _) 1 _)
 have HR:=hid (HR.out.gr hgA (fun q e=>by have h:w.heap.size=q:=(by simpa using e);omega));have HG:=hid (q8 HG.out hgA (fun q e=>by have h:w.heap.size=q:=(by simpa using e);omega));have HO1:=hid (HO1.out.kept hgA (fun q e=>by have h:w.heap.size=q:=(by simpa using e);omega));clear hgA;go_wp2_with fail;refine bodyPost_ret (v:=.agg #[.int .i64 o,.slice o1 n1 e1]) (by simp [results,Tryz.results118,go_sem,a0,a1]) rfl ⟨[.int .i64 o,.slice o1 n1 e1],rfl,?_,HR.out,HG.out⟩;have q1:=HO1.out.bxs (B0:=w.heap.size) (by omega)
 exact fun w' h'=>⟨_,_,_,rfl,(q1 w' h').ints⟩
theorem qFq (K p:Nat) (k n:Int) (tail:List Int) (w:World) (h:Rdw K p w (glE ⟨true,k,n⟩ ++ tail)) (hk:uX k n=true) (hn:-9223372036854775808 <= n /\ n <= 9223372036854775807):Calls Tryz.prog 114 #[rp p] w (qRg K p w ⟨true,k,n⟩ tail):=by
 have hKp:=h.le;have hpw:=h.lt;have HA:Hid (Cel (w.alloc (.cells #[.bool false,.int .i64 0,.int .i64 0] 58)) w.heap.size [.bool false,.int .i64 0,.int .i64 0]):=hid (Cel.new w [.bool false,.int .i64 0,.int .i64 0] 58);have HR:=hid (h.alloc (.cells #[.bool false,.int .i64 0,.int .i64 0] 58));have HG:=hid (qU (qO w (some p)) (.cells #[.bool false,.int .i64 0,.int .i64 0] 58));clear h;go_enter Tryz.func114,Tryz.ntmps114;have hcall:=jL K p (w.alloc (.cells #[.bool false,.int .i64 0,.int .i64 0] 58)) (kB k :: (1 :: (qBk k n ++ tail))) 1 (by have:=HR.out;simpa [glE,muB] using this) (by simp) 1 rfl;have HCALL:=hid hcall;clear hcall;go_wp2_with fail;refine HCALL.out.mono ?_;rintro e w1 ⟨rfl,hr,hg⟩;have HR:=hid hr;have HA:=hid (HA.out.grown (qW5 _) hg (by simp;omega));have HG:=hid (qF HG.out hg);have hszg:=HG.out.size;clear hr hg HCALL;have hBw:w.heap.size < w1.heap.size:=HA.out.lt (qW5 _);have hBp:p < w1.heap.size:=by omega
 have HB:Hid (Cel (w1.alloc (.cells #[.bool false,.int .i64 0,.int .i64 0] 58)) w1.heap.size [.bool false,.int .i64 0,.int .i64 0]):=hid (by have:=Cel.new w1 [.bool false,.int .i64 0,.int .i64 0] 58;simpa using this);have HA:=hid (HA.out.below (qW5 _) (Bl.alloc (Bl.refl _) (.cells #[.bool false,.int .i64 0,.int .i64 0] 58)));have HR:=hid (HR.out.alloc (.cells #[.bool false,.int .i64 0,.int .i64 0] 58));have HG:=hid (qU HG.out (.cells #[.bool false,.int .i64 0,.int .i64 0] 58));have hcall:=qDo K p (w1.alloc (.cells #[.bool false,.int .i64 0,.int .i64 0] 58)) 1 (qBk k n ++ tail) HR.out;have HCALL:=hid hcall;clear hcall;go_wp2_with fail;refine HCALL.out.mono ?_;rintro e w2 ⟨rfl,hr,hg⟩;have HR:=hid hr;have HA:=hid (HA.out.grown (qW5 _) hg (by simp;omega));have HB:=hid (HB.out.grown (qW5 _) hg (by simp;omega));have HG:=hid (qF HG.out hg);have hszg:=HG.out.size;clear hr hg HCALL;have b0:=HB.out.cell 0 _ rfl;have fb0:=HB.out.fro 0 _ rfl;have b1:=HB.out.cell 1 _ rfl;have fb1:=HB.out.fro 1 _ rfl;have b2:=HB.out.cell 2 _ rfl;have fb2:=HB.out.fro 2 _ rfl;have HB:=hid (HB.out.set 0 (.bool true) (by simp));have HA:=hid (HA.out.other (show w.heap.size ≠ w1.heap.size by omega) 0 (.bool true));have hg2:=qH w2 ⟨w1.heap.size,0,none⟩ (.bool true);have HR:=hid (HR.out.gr hg2 (fun q e=>by have h:w1.heap.size=q:=(by simpa using e);omega));have HG:=hid (q8 HG.out hg2 (fun q e=>by have h:w1.heap.size=q:=(by simpa using e);omega));clear hg2;have hcall:=yQ K p k n tail (w2.setCell ⟨w1.heap.size,0,none⟩ (.bool true)) HR.out hk hn;have HCALL:=hid hcall;clear hcall;go_wp2_with fail;refine HCALL.out.mono ?_;rintro e w3 ⟨rfl,hr,hg⟩;have HR:=hid hr;have HA:=hid (HA.out.grown (qW5 _) hg (by simp;omega));have HB:=hid (HB.out.grown (qW5 _) hg (by simp;omega));have HG:=hid (qF HG.out hg);have hszg:=HG.out.size;clear hr hg HCALL;have b0:=HB.out.cell 0 _ rfl;have fb0:=HB.out.fro 0 _ rfl;have b1:=HB.out.cell 1 _ rfl;have fb1:=HB.out.fro 1 _ rfl;have b2:=HB.out.cell 2 _ rfl;have fb2:=HB.out.fro 2 _ rfl;have a0:=HA.out.cell 0 _ rfl;have fa0:=HA.out.fro 0 _ rfl;have a1:=HA.out.cell 1 _ rfl;have fa1:=HA.out.fro 1 _ rfl;have a2:=HA.out.cell 2 _ rfl;have fa2:=HA.out.fro 2 _ rfl;have HB:=hid (HB.out.set 1 (.int .i64 k) (by simp));have HA:=hid (HA.out.other (show w.heap.size ≠ w1.heap.size by omega) 1 (.int .i64 k));have hg2:=qH w3 ⟨w1.heap.size,1,none⟩ (.int .i64 k);have HR:=hid (HR.out.gr hg2 (fun q e=>by have h:w1.heap.size=q:=(by simpa using e);omega));have HG:=hid (q8 HG.out hg2 (fun q e=>by have h:w1.heap.size=q:=(by simpa using e);omega));clear hg2;have HB:=hid (HB.out.set 2 (.int .i64 n) (by simp));have HA:=hid (HA.out.other (show w.heap.size ≠ w1.heap.size by omega) 2 (.int .i64 n));have hg2:=qH (w3.setCell ⟨w1.heap.size,1,none⟩ (.int .i64 k)) ⟨w1.heap.size,2,none⟩ (.int .i64 n);have HR:=hid (HR.out.gr hg2 (fun q e=>by have h:w1.heap.size=q:=(by simpa using e);omega));have HG:=hid (q8 HG.out hg2 (fun q e=>by have h:w1.heap.size=q:=(by simpa using e);omega));clear hg2
 have hgA:World.grownBy ((w3.setCell ⟨w1.heap.size,1,none⟩ (.int .i64 k)).setCell ⟨w1.heap.size,2,none⟩ (.int .i64 n)) (((((w3.setCell ⟨w1.heap.size,1,none⟩ (.int .i64 k)).setCell ⟨w1.heap.size,2,none⟩ (.int .i64 n)).setCell ⟨w.heap.size,0,none⟩ (.bool true)).setCell ⟨w.heap.size,1,none⟩ (.int .i64 k)).setCell ⟨w.heap.size,2,none⟩ (.int .i64 n)) (some w.heap.size):=(qC (qC (qC (qO _ _) 0 _) 1 _) 2 _)
 have HR:=hid (HR.out.gr hgA (fun q e=>by have h:w.heap.size=q:=(by simpa using e);omega));have HG:=hid (q8 HG.out hgA (fun q e=>by have h:w.heap.size=q:=(by simpa using e);omega));clear hgA;go_wp2_with fail;refine bodyPost_ret (v:=.agg #[.bool true,.int .i64 k,.int .i64 n]) (by simp [results,Tryz.results114,go_sem,a0,a1,a2]) rfl ⟨[.bool true,.int .i64 k,.int .i64 n],rfl,?_,HR.out,HG.out⟩;exact Bx.pure ⟨rfl,hn⟩
theorem qFr (K p:Nat) (k n:Int) (tail:List Int) (w:World) (h:Rdw K p w (glE ⟨false,k,n⟩ ++ tail)) (hk:uX k n=true) (hn:-9223372036854775808 <= n /\ n <= 9223372036854775807):Calls Tryz.prog 114 #[rp p] w (qRg K p w ⟨false,k,n⟩ tail):=by
 have hKp:=h.le;have hpw:=h.lt;have HA:Hid (Cel (w.alloc (.cells #[.bool false,.int .i64 0,.int .i64 0] 58)) w.heap.size [.bool false,.int .i64 0,.int .i64 0]):=hid (Cel.new w [.bool false,.int .i64 0,.int .i64 0] 58);have HR:=hid (h.alloc (.cells #[.bool false,.int .i64 0,.int .i64 0] 58));have HG:=hid (qU (qO w (some p)) (.cells #[.bool false,.int .i64 0,.int .i64 0] 58));clear h;go_enter Tryz.func114,Tryz.ntmps114;have hcall:=jL K p (w.alloc (.cells #[.bool false,.int .i64 0,.int .i64 0] 58)) (kB k :: (0 :: (qBk k n ++ tail))) 1 (by have:=HR.out;simpa [glE,muB] using this) (by simp) 1 rfl;have HCALL:=hid hcall;clear hcall;go_wp2_with fail;refine HCALL.out.mono ?_;rintro e w1 ⟨rfl,hr,hg⟩;have HR:=hid hr;have HA:=hid (HA.out.grown (qW5 _) hg (by simp;omega));have HG:=hid (qF HG.out hg);have hszg:=HG.out.size;clear hr hg HCALL;have hBw:w.heap.size < w1.heap.size:=HA.out.lt (qW5 _);have hBp:p < w1.heap.size:=by omega
 have HB:Hid (Cel (w1.alloc (.cells #[.bool false,.int .i64 0,.int .i64 0] 58)) w1.heap.size [.bool false,.int .i64 0,.int .i64 0]):=hid (by have:=Cel.new w1 [.bool false,.int .i64 0,.int .i64 0] 58;simpa using this);have HA:=hid (HA.out.below (qW5 _) (Bl.alloc (Bl.refl _) (.cells #[.bool false,.int .i64 0,.int .i64 0] 58)));have HR:=hid (HR.out.alloc (.cells #[.bool false,.int .i64 0,.int .i64 0] 58));have HG:=hid (qU HG.out (.cells #[.bool false,.int .i64 0,.int .i64 0] 58));have hcall:=qDo K p (w1.alloc (.cells #[.bool false,.int .i64 0,.int .i64 0] 58)) 0 (qBk k n ++ tail) HR.out;have HCALL:=hid hcall;clear hcall;go_wp2_with fail;refine HCALL.out.mono ?_;rintro e w2 ⟨rfl,hr,hg⟩;have HR:=hid hr;have HA:=hid (HA.out.grown (qW5 _) hg (by simp;omega));have HB:=hid (HB.out.grown (qW5 _) hg (by simp;omega));have HG:=hid (qF HG.out hg);have hszg:=HG.out.size;clear hr hg HCALL;have b0:=HB.out.cell 0 _ rfl;have fb0:=HB.out.fro 0 _ rfl;have b1:=HB.out.cell 1 _ rfl;have fb1:=HB.out.fro 1 _ rfl;have b2:=HB.out.cell 2 _ rfl;have fb2:=HB.out.fro 2 _ rfl;have HB:=hid (HB.out.set 0 (.bool false) (by simp));have HA:=hid (HA.out.other (show w.heap.size ≠ w1.heap.size by omega) 0 (.bool false));have hg2:=qH w2 ⟨w1.heap.size,0,none⟩ (.bool false);have HR:=hid (HR.out.gr hg2 (fun q e=>by have h:w1.heap.size=q:=(by simpa using e);omega));have HG:=hid (q8 HG.out hg2 (fun q e=>by have h:w1.heap.size=q:=(by simpa using e);omega));clear hg2;have hcall:=yQ K p k n tail (w2.setCell ⟨w1.heap.size,0,none⟩ (.bool false)) HR.out hk hn;have HCALL:=hid hcall;clear hcall;go_wp2_with fail;refine HCALL.out.mono ?_;rintro e w3 ⟨rfl,hr,hg⟩;have HR:=hid hr;have HA:=hid (HA.out.grown (qW5 _) hg (by simp;omega));have HB:=hid (HB.out.grown (qW5 _) hg (by simp;omega));have HG:=hid (qF HG.out hg);have hszg:=HG.out.size;clear hr hg HCALL;have b0:=HB.out.cell 0 _ rfl;have fb0:=HB.out.fro 0 _ rfl;have b1:=HB.out.cell 1 _ rfl;have fb1:=HB.out.fro 1 _ rfl;have b2:=HB.out.cell 2 _ rfl;have fb2:=HB.out.fro 2 _ rfl;have a0:=HA.out.cell 0 _ rfl;have fa0:=HA.out.fro 0 _ rfl;have a1:=HA.out.cell 1 _ rfl;have fa1:=HA.out.fro 1 _ rfl;have a2:=HA.out.cell 2 _ rfl;have fa2:=HA.out.fro 2 _ rfl;have HB:=hid (HB.out.set 1 (.int .i64 k) (by simp));have HA:=hid (HA.out.other (show w.heap.size ≠ w1.heap.size by omega) 1 (.int .i64 k));have hg2:=qH w3 ⟨w1.heap.size,1,none⟩ (.int .i64 k);have HR:=hid (HR.out.gr hg2 (fun q e=>by have h:w1.heap.size=q:=(by simpa using e);omega));have HG:=hid (q8 HG.out hg2 (fun q e=>by have h:w1.heap.size=q:=(by simpa using e);omega));clear hg2;have HB:=hid (HB.out.set 2 (.int .i64 n) (by simp));have HA:=hid (HA.out.other (show w.heap.size ≠ w1.heap.size by omega) 2 (.int .i64 n));have hg2:=qH (w3.setCell ⟨w1.heap.size,1,none⟩ (.int .i64 k)) ⟨w1.heap.size,2,none⟩ (.int .i64 n);have HR:=hid (HR.out.gr hg2 (fun q e=>by have h:w1.heap.size=q:=(by simpa using e);omega));have HG:=hid (q8 HG.out hg2 (fun q e=>by have h:w1.heap.size=q:=(by simpa using e);omega));clear hg2
 have hgA:World.grownBy ((w3.setCell ⟨w1.heap.size,1,none⟩ (.int .i64 k)).setCell ⟨w1.heap.size,2,none⟩ (.int .i64 n)) (((((w3.setCell ⟨w1.heap.size,1,none⟩ (.int .i64 k)).setCell ⟨w1.heap.size,2,none⟩ (.int .i64 n)).setCell ⟨w.heap.size,0,none⟩ (.bool false)).setCell ⟨w.heap.size,1,none⟩ (.int .i64 k)).setCell ⟨w.heap.size,2,none⟩ (.int .i64 n)) (some w.heap.size):=(qC (qC (qC (qO _ _) 0 _) 1 _) 2 _)
 have HR:=hid (HR.out.gr hgA (fun q e=>by have h:w.heap.size=q:=(by simpa using e);omega));have HG:=hid (q8 HG.out hgA (fun q e=>by have h:w.heap.size=q:=(by simpa using e);omega));clear hgA;go_wp2_with fail;refine bodyPost_ret (v:=.agg #[.bool false,.int .i64 k,.int .i64 n]) (by simp [results,Tryz.results114,go_sem,a0,a1,a2]) rfl ⟨[.bool false,.int .i64 k,.int .i64 n],rfl,?_,HR.out,HG.out⟩;exact Bx.pure ⟨rfl,hn⟩
open Go.RowKit
theorem qRh (c:Int) (h0:0 <= c) (h1:c <= 32) (w:World):Calls Tryz.prog 222 #[.int .u64 1,.int .u64 c] w fun e w'=>e=.returned (.tuple #[.int .u64 0,.int .u64 c]) /\ w=w':=by
 have e1:bits BinOp.and IntKind.u64 c 4294967295=c:=by
  have:=vD .u64 32 (by decide) (fun n h0 h1=>by rw [IntKind.wrap_u64];rw [show (2:Int) ^ 32=4294967296 from by decide] at h1;omega) c;rw [show (2:Int) ^ 32=4294967296 from by decide] at this;rw [show (4294967295:Int)=4294967296 - 1 from by decide,this];omega
 have e2:bits BinOp.and IntKind.u64 1 4294967295=1:=by decide
 have e3:c / 4294967296=0:=by omega
 have e4:bits BinOp.and IntKind.u64 0 4294967295=0:=by decide
 go_enter Tryz.func222,Tryz.ntmps222;go_wp2_with fail;go_ret2;exact ⟨rfl,rfl⟩
theorem qVo (c:Int) (h0:0 <= c) (h1:c <= 32) (w:World):Calls Tryz.prog 203 #[.int .u64 1,.int .u64 c] w fun e w'=>e=.returned (.tuple #[.int .u64 0,.int .u64 c]) /\ w=w':=by
 have hm:=qRh c h0 h1 w;have HM:=hid hm;clear hm;go_enter Tryz.func203,Tryz.ntmps203;go_wp2_with fail;refine HM.out.mono ?_;rintro e w' ⟨rfl,rfl⟩;go_wp2_with fail;go_ret2;exact ⟨rfl,rfl⟩
def qFs (x:Int) (n c:Nat):List Value:=List.replicate n (Value.int .i64 x) ++ List.replicate (c - n) (Value.int .i64 0)
theorem qJ1 (x:Int) (n c:Nat) (h:n <= c):(qFs x n c).length=c:=by
 simp only [qFs,qW7,List.length_replicate];omega
theorem qDp (x:Int) (n m c:Nat) (_:n + m <= c):splice (qFs x n c) n (List.replicate m (Value.int .i64 x))=qFs x (n + m) c:=by
 unfold splice qFs;rw [List.take_left' (by simp),List.length_replicate,List.drop_append];simp only [List.drop_replicate,List.length_replicate];rw [show n - (n + m)=0 by omega,show n + m - n=m by omega,show c - n - m=c - (n + m) by omega];simp [<- List.append_assoc,List.replicate_append_replicate]
theorem qOl (x:Int) (c:Nat):qFs x 0 c=List.replicate c (Value.int .i64 0):=by simp [qFs]
theorem qHm (x:Int) (c:Nat):qFs x c c=List.replicate c (Value.int .i64 x):=by simp [qFs]
theorem qSa:Tryz.prog.underlying 24=some (.slice (Tryz.prog.elem 24)):=by kernel_rfl
theorem qSb (w:World):(sizeOf (Tryz.prog.elem 24)).run Tryz.prog w=.ok 1 w:=by kernel_rfl
theorem qOm (x:Int) (hx:(Lit.int .i64 x).wf=true) (c:Nat) (h1:1 <= c) (h2:c <= 32) (ao:Option Addr) (cap:Nat) (w:World) (h:Rd .i64 w ao 1 cap [x]) :
    Calls Tryz.prog 193 #[.slice ao 1 cap,.int .i64 c] w fun e w'=>∃ v,e=.returned v /\ Own 3 .i64 w.heap.size w' v (List.replicate c x) /\ Below w.heap.size w w':=by
 have hm:=qVo (c:Int) (by omega) (by omega) w
 obtain ⟨b,off,rfl,hc⟩:=h.at (by decide)
 have hc0:=hc 0 (by decide)
 simp only [qXx,qXd] at hc0
 have hb:=qXc w _ hc0
 have HM:=hid hm
 have HX:=hid hx
 clear hm h hc
 have hd1:decide ((c:Int) < 0)=false:=by simp;try omega
 have hd2:decide ((9223372036854775807:Int) < (c:Int))=false:=by simp;omega
 have hw1:IntKind.u64.wrap (c:Int)=c:=by rw [IntKind.wrap_u64];omega
 have hw2:wrap64 (c:Int)=c:=qDl _ (by omega) (by omega)
 go_enter Tryz.func193,Tryz.ntmps193
 go_wp2_with fail
 refine HM.out.mono ?_
 rintro e w' ⟨rfl,rfl⟩
 clear HM
 obtain ⟨i0,hi,hz0,hz1,hz2⟩:=info_parts qTz
 have hby:i0.bytes * c <= 281474976710656:=by rw [hz2];omega
 go_wp2_with (at_make;refine wpList_make_full _ rfl _ _ 24 rfl w.heap.size 3 i0 (.int .i64 0) 1 Tryz.underlying24 hi hz0 hz1 _ _ _ _ c rfl rfl rfl rfl hby (by unfold maxLen;omega) (qW8 _) ?_;intro w1 hrow hg1;have HROW:=hid hrow;have HG1:=hid hg1;clear hrow hg1;apply jF)
 refine hid ?_
 have hcur:w1.heap[w.heap.size]?=some (.cells (qFs x 0 c).toArray 3 (0,0)):=by
  rcases HROW.out.2 with ⟨e,_⟩ | ⟨g,cap',cur,e,_,hgc,_,_,hsz,htk⟩
  ·simp at e
  ·simp only [Value.slice.injEq,Option.some.injEq,Addr.mk.injEq] at e
   obtain ⟨⟨rfl,_⟩,_,rfl⟩:=e;rw [hgc]
   have e2:cur.toList=List.replicate c (Value.int .i64 0):=by
    rw [qW9 (by rw [Array.length_toList,hsz];exact qW8 _)] at htk;rw [htk];simp [madeCells,Value.cells,Nat.mod_one,List.map_const']
   rw [qOl,<- e2]
 have hb1:Below w.heap.size w w1:=⟨HG1.out.os,HG1.out.tape,HG1.out.output,HG1.out.size,fun k hk=>HG1.out.block k hk (by simp)⟩
 have HB1:=hid hb1
 have hx1:w1.cell? ⟨b,off,none⟩=some (.int .i64 x):=(hb1.cell (p:=⟨b,off,none⟩) hb).trans hc0
 have HX1:=hid hx1
 have HCUR:=hid hcur
 clear hcur hx1 hb1 HROW hc0 HG1
 have hsz1:(Tryz.prog.info? 3).map (·.size)=some 1:=by rw [hi];simp [hz1]
 have hfit:0 + [Value.int .i64 x].length <= (qFs x 0 c).length:=by
  rw [qJ1 _ _ _ (qXf _)];show 0 + 1 <= c;omega
 have hpos:0 < [Value.int .i64 x].length -> (some ⟨w.heap.size,0,none⟩:Option Addr)=some ⟨w.heap.size,0,none⟩ /\ ∃ ad,(some ⟨b,off,none⟩:Option Addr)=some ad /\ ∀ j v,[Value.int .i64 x][j]?=some v -> w1.cell? (ad.add j)=some v:=fun _=>⟨rfl,⟨b,off,none⟩,rfl,fun j v hj=>by
  cases j with
  | zero =>
    simp at hj;subst hj;rw [Addr.add_lit];exact HX1.out
  | succ j=>simp at hj⟩
 have HFIT:=hid hfit
 have HPOS:=hid hpos
 clear hfit hpos
 go_wp2_with (refine wpList_copy_splice rfl (.tmp 31) (.tmp 32) 24 24 rfl 3 Tryz.underlying24 hsz1 (some ⟨w.heap.size,0,none⟩) (some ⟨b,off,none⟩) c c 1 cap rfl rfl w.heap.size 0 (qFs x 0 c) 3 HCUR.out [.int .i64 x] (Nat.min_eq_left h1).symm HPOS.out HFIT.out (by simp [Value.oneCell']) w.heap.size w HB1.out (qW8 _) ?_;intro w2 hg2 hb2;have HB2:=hid hb2;clear hb2;apply jF)
 refine hid ?_
 have hg3:Hid (w2.heap[w.heap.size]?=some (.cells (qFs x 1 c).toArray 3 (0,0))):=by
  have:=hg2.out;have e:=qDp x 0 1 c (by omega);rw [show List.replicate 1 (Value.int .i64 x)=[Value.int .i64 x] from rfl,Nat.zero_add] at e;rw [e] at this;exact this
 clear hg2 HCUR HB1 HX1
 go_wp2_with fail
 go_loopw [8] (fun n wr=>∃ k:Nat,1 <= k /\ k <= c /\ n=.int .i64 k /\ Hid (wr.heap[w.heap.size]?=some (.cells (qFs x k c).toArray 3 (0,0))) /\ Below w.heap.size w wr) (fun n _=>c - (intOf n).toNat)
 case atStart=>exact ⟨1,qW8 _,h1,rfl,hg3,HB2.out⟩
 case round =>
  obtain ⟨k,hk1,hkc,rfl,HK,hb⟩:=hrel;have HB:=hid hb;clear hb hg3 HB2;by_cases hk:k < c
  ·have hcut1:=vR (P:=Tryz.prog) 24 qSa qSb (some ⟨w.heap.size,0,none⟩) c c (k:Int) k rfl (by omega)
   have hcut2:=qFx (P:=Tryz.prog) 24 qSa qSb (some ⟨w.heap.size,0,none⟩) c c (k:Int) k rfl (by omega)
   have hca:qEm (some ⟨w.heap.size,0,none⟩) k c=some ⟨w.heap.size,k,none⟩:=by
    unfold qEm;rw [if_neg (by omega)];simp [Addr.add_lit]
   rw [hca] at hcut1
   obtain ⟨m,hm⟩:∃ m,Nat.min k (c - k)=m:=⟨_,rfl⟩
   obtain ⟨d,hd⟩:∃ d,c - k=d:=⟨_,rfl⟩
   rw [hd] at hcut1 hm;have hmk:m <= k:=by rw [<- hm];exact Nat.min_le_left _ _
   have hmd:m <= d:=by rw [<- hm];exact Nat.min_le_right _ _
   have hm1:1 <= m:=by rw [<- hm];exact Nat.le_min.2 ⟨hk1,by omega⟩
   have HM2:=hid hm;clear hca hm;have hsp:=qDp x k m c (by omega)
   have hfit2:k + (List.replicate m (Value.int .i64 x)).length <= (qFs x k c).length:=by
    rw [qJ1 _ _ _ hkc,List.length_replicate];omega
   have hsrc:∀ j v,(List.replicate m (Value.int .i64 x))[j]?=some v -> wr.cell? ⟨w.heap.size,j,none⟩=some v:=by
    intro j v hj;have hjm:j < m:=by have:=(qXt.1 hj).1;simpa using this
    have hv:v=.int .i64 x:=by
     have:=(qXt.1 hj).2;simpa using this.symm
    subst hv;unfold World.cell?;dsimp only;rw [HK.out];have hjk:j < k:=by omega
    show (qFs x k c).toArray[j]?=_;rw [List.getElem?_toArray];unfold qFs;rw [List.getElem?_append_left (by simpa using hjk),List.getElem?_replicate,if_pos hjk]
   have HSRC:=hid hsrc;have HSP:=hid hsp;have HFIT2:=hid hfit2;clear hsrc hsp hfit2 HPOS HFIT;go_wp2_with fail;go_region_law (refine step_copy_splice rfl (.tmp 41) (.tmp 44) 24 24 rfl 3 Tryz.underlying24 hsz1 (some ⟨w.heap.size,k,none⟩) (some ⟨w.heap.size,0,none⟩) d d k c (by simp [Act.eval,Act.put]) (by simp [Act.eval,Act.put]) w.heap.size k (qFs x k c) 3 HK.out (List.replicate m (Value.int .i64 x)) (by rw [List.length_replicate];exact HM2.out.symm) (fun _=>⟨rfl,_,rfl,fun j v hj=>by rw [Addr.add_lit,Nat.zero_add];exact HSRC.out j v hj⟩) HFIT2.out (by intro v hv;rw [List.eq_of_mem_replicate hv];simp [Value.oneCell']) w.heap.size w HB.out.drew (qW8 _) ?_;intro w4 hg4 hb4;have HG4:=hid hg4.out;have HB4:=hid hb4;clear hg4 hb4);rw [HSP.out] at HG4;have hw3:IntKind.i64.wrap ((k:Int) + (m:Int))=(k:Int) + m:=IntWalk.i64_in _ (by omega);simp [Act.put,hw3];go_roundw
   case rel=>exact ⟨.int .i64 ((k:Int) + m),_,_,_,_,_,_,_,_,_,_,_,_,_,⟨k + m,by omega,by omega,by simp,HG4.out,HB4.out⟩,rfl⟩
   case measure=>simp [intOf];omega
  ·have e0:k=c:=by omega
   subst e0
   have hown:Hid (Own 3 .i64 w.heap.size wr (.slice (some ⟨w.heap.size,0,none⟩) k k) (List.replicate k x)):=by
    refine ⟨⟨by simp,.inr ⟨w.heap.size,k,(qFs x k k).toArray,by simp,qW8 _,HK.out,by simp,by unfold maxLen;omega,by simp [qHm],by simp [qHm]⟩⟩,fun z hz=>?_⟩;rw [List.eq_of_mem_replicate hz];exact HX.out
   clear HK;go_wp2_with fail;exact bodyPost_ret (v:=.slice (some ⟨w.heap.size,0,none⟩) k k) (by simp [results,Tryz.results193,go_sem]) rfl ⟨_,rfl,hown.out,HB.out⟩
open Go.RowKit
theorem qOn:∀ args w,(callFunc 192 args).run Tryz.prog w=.ok (.enter 192 args) w:=enters_of Tryz.func192 (by kernel_rfl) rfl
theorem qDw (R:List (Int × Int)) (k:Nat) (x:Int × Int) (hx:R[k]?=some x):zI (R.take (k + 1))=zI (R.take k) ++ List.replicate x.1.toNat x.2 /\ (zI (R.take k)).length + x.1.toNat <= (zI R).length:=by
 have e:R.take (k + 1)=R.take k ++ [x]:=by rw [qXy,hx];rfl
 have h1:zI (R.take (k + 1))=zI (R.take k) ++ List.replicate x.1.toNat x.2:=by rw [e,qH5]
 refine ⟨h1,?_⟩;have h2:=congrArg List.length h1;rw [qW7,List.length_replicate] at h2;rw [<- h2];have h3:=qK6 (R.take (k + 1)) (R.drop (k + 1));rw [List.take_append_drop] at h3;omega
theorem qHn (K p:Nat) (ls tail:List Int) (w:World) (h:Rdw K p w (qT ruE (zV ls) ++ tail)) (hl:ls.length <= 32) (hm:ls.all yG=true) :
    Calls Tryz.prog 173 #[rp p] w fun e w'=>∃ v,e=.returned v /\ OwnG 3 1 (IR .i64) w.heap.size w' v ls /\ Rdw K p w' tail /\ w.grownBy w' (some p):=by
 have hsp:=vJ ls
 have hle:=qH8 ls
 have hki:=qNr ls
 have hrl:=qBa ls
 obtain ⟨R,hR⟩:∃ R,zV ls=R:=⟨_,rfl⟩
 rw [hR] at h hsp hle hki hrl
 have hgv:=qUe _ ruE K p R tail w h qOn (by omega) (fun x _=>by have:=qFp x.1;simp [ruE,kE]) (fun w x t hx hr=>by
  have h1:=hle x hx;have hk:=qXb.1 hm x.2 (hki x hx)
  exact qOk K p x.1 x.2 t w hr (by omega) (by omega) hk)
 have hbd:∀ x ∈ R,1 <= x.1 /\ x.1 <= 32 /\ (x.2=1 ∨ x.2=2):=fun x hx=>by
  have h1:=hle x hx;have hk:=qXb.1 hm x.2 (hki x hx);simp [yG] at hk;exact ⟨h1.1,by omega,hk⟩
 have HGV:=hid hgv
 have HSP:=hid hsp
 have HBD:=hid hbd
 have hslen:(zI R).length <= 32:=by rw [hsp];exact hl
 have hRl:R.length <= 32:=by omega
 have HSL:=hid hslen
 have hpw:=h.lt
 clear h hgv hle hki hm hsp hR hbd hrl hslen
 go_enter Tryz.func173,Tryz.ntmps173
 go_wp2_with fail
 refine HGV.out.mono ?_
 rintro e w1 ⟨v,rfl,ho,hr,hg⟩
 obtain ⟨vo,vc,rfl,hrx⟩:=ho.rx
 obtain ⟨n,hn⟩:∃ n,R.length=n:=⟨_,rfl⟩
 rw [hn] at hrx hRl ⊢
 have HRX:=hid hrx
 have HR1:=hid hr
 have HG1:=hid hg
 have hsz1:=hg.size
 have Hn:=hid hn
 clear ho hr hg hrx HGV hn
 go_wp2_with fail
 go_loopw [3,9] (fun v i wr=>∃ k:Nat,k <= n /\ i=.int .i64 k /\ Own 3 .i64 w1.heap.size wr v (zI (R.take k)) /\ Below w1.heap.size w1 wr) (fun _ i _=>n - (intOf i).toNat)
 case atStart=>exact ⟨0,qXf _,rfl,by simpa [zI] using Own.nil _ _ _ _,qXh _ _⟩
 case round =>
  obtain ⟨k,hkn,rfl,hown,hb⟩:=hrel;have hsz:=hb.size;have HO:=hid hown;have HB:=hid hb;clear hown hb;by_cases hk:k < n
  ·obtain ⟨x,hx⟩:∃ x,R[k]?=some x:=⟨R[k]'(by rw [Hn.out];exact hk),qW6 (by rw [Hn.out];exact hk)⟩
   obtain ⟨hs1,hs2⟩:=qDw R k x hx;obtain ⟨b,off,cs,rfl,hcl,hR,hc⟩:=RdG.elem (HRX.out.below HB.out) hx;obtain ⟨c,q⟩:=x;obtain rfl:=hR.now;have c0:=hc 0 _ rfl;rw [qXd] at c0;have c1:=hc 1 _ rfl;have hbx:=HBD.out _ (qXa hx);simp only at c0 c1 hbx hs1 hs2
   obtain ⟨cn,hcn⟩:∃ cn:Nat,c=cn:=⟨c.toNat,by omega⟩
   subst hcn;have e3:(cn:Int).toNat=cn:=by simp
   rw [e3] at hs1 hs2
   obtain ⟨ys,hys⟩:∃ ys,ys=zI (R.take k):=⟨_,rfl⟩
   rw [<- hys] at HO hs1 hs2;obtain ⟨yo,yc,rfl,hry⟩:=HO.out.rd
   obtain ⟨yn,hyn⟩:∃ yn,ys.length=yn:=⟨_,rfl⟩
   rw [hyn] at HO hs2 ⊢;have hsl:=HSL.out;have hcmp:¬ ((32:Int) - (yn:Int) < (cn:Int)):=by omega
   have hcmp':IntKind.i64.wrap ((32:Int) - (yn:Int))=32 - yn:=IntWalk.i64_in _ (by omega);have hwq:(Lit.int .i64 q).wf=true:=WalkArith.wf_i64 (by omega);have HS1:=hid hs1;have HYN:=hid hyn;have HWQ:=hid hwq;have hcn1:1 <= cn:=by omega
   have hcn2:cn <= 32:=by omega
   have hrb:Rd .i64 ((wr.alloc (.cells #[.int .i64 (cn:Int),.int .i64 q] 184)).alloc (.cells #[.int .i64 q] 3)) (some ⟨wr.heap.size + 1,0,none⟩) 1 1 [q]:=by
    have:=Rd.built (wr.alloc (.cells #[.int .i64 (cn:Int),.int .i64 q] 184)) .i64 3 q hwq;simpa using this
   have HREP:=hid (qOm q hwq cn hcn1 hcn2 _ 1 _ hrb);clear hcl hR hc hx hs1 hry hys hwq hyn e3 hbx hsl hrb;go_wp2_with fail;refine HREP.out.mono ?_;rintro e w2 ⟨v2,rfl,hv2,hb2⟩;obtain ⟨zo,zc,rfl,hrz⟩:=hv2.rd;have hzl:(List.replicate cn q).length=cn:=List.length_replicate;rw [hzl] at hrz ⊢;have hbb:=Bl.step (Bl.alloc (Bl.alloc (Bl.refl wr) (.cells #[.int .i64 (cn:Int),.int .i64 q] 184)) (.cells #[.int .i64 q] 3)) hb2;have HRZ:=hid hrz;have HO2:=hid (HO.out.below hbb (qW8 _));have HB2:=hid (HB.out.trans (hbb.mono hsz));have hsz2:=HB2.out.size;clear hv2 hb2 hrz hzl hbb HO HB c0 c1 HREP
   go_wp2_with (at_builtin;refine qA rfl (.tmp 21) (.tmp 27) 24 rfl 3 .i64 w1.heap.size 8 Tryz.underlying24 qTz _ ys rfl HO2.out zo cn zc (List.replicate cn q) rfl HRZ.out (by have:=HYN.out;omega) (by have:=HYN.out;omega) hsz2 ?_;intro v3 w3 h3 h4 _)
   go_roundw
   case rel =>
    refine ⟨k + 1,by omega,by go_num,?_,HB2.out.trans h4⟩;rw [HS1.out];exact h3
   case measure=>simp [intOf];omega
  ·have e0:k=n:=by omega
   subst e0;have ht:R.take k=R:=qW9 (by rw [Hn.out];exact qW8 _);have ha:=HO.out;rw [ht,HSP.out] at ha;have HA2:=hid ((ha.g).lift hsz1);have HG2:=hid (qF HG1.out (xR HB.out (qW8 _) (some p)));have HR2:=hid (HR1.out.below HB.out (qW8 _));clear ht ha HO;go_wp2_with fail;exact bodyPost_ret (v:=u3) (by simp [results,Tryz.results173,go_sem]) rfl ⟨_,rfl,HA2.out,HR2.out,HG2.out⟩
open Go.RowKit
theorem qRi (ao:Option Addr) (n cap:Nat) (xs:List Int) (w:World) (h:Rd .u8 w ao n cap xs) (hn:n <= 1000000) :
    Calls Tryz.prog 176 #[.slice ao n cap] w fun e w'=>∃ v,e=.returned v /\ Own 5 .u8 w.heap.size w' v xs /\ Below w.heap.size w w':=by
 have q22:∀ (w:World) (a:Option Addr) (n c n' c':Nat),(binOp .eql 37 (.slice a n c) (.slice none n' c')).run Tryz.prog w=.ok (.bool a.isNone) w:=fun w a n c n' c'=>by
  have:=Lib.run_eql_slice_nil (P:=Tryz.prog) w _ _ a n c n' c' Tryz.underlying37;exact this
 cases ao with
 | none =>
   have hc:=h.nil rfl;have h0:n=0:=by have:=h.le;omega
   have hx:xs=[]:=List.eq_nil_of_length_eq_zero (by rw [h.len];exact h0);subst hc h0 hx;clear h;go_enter Tryz.func176,Tryz.ntmps176;go_wp2_with fail;go_ret;exact ⟨_,rfl,Own.nil _ _ _ _,qXh _ _⟩
 | some ad =>
   have H:=hid h;clear h;go_enter Tryz.func176,Tryz.ntmps176
   have ho:Own 5 .u8 w.heap.size (w.alloc (.cells #[] 5)) (.slice (some ⟨w.heap.size,0,none⟩) 0 0) []:=⟨World.ownsRow_made w #[] 0 (qW8 _) (by decide) rfl,fun _ h=>by cases h⟩
   go_wp2_with (at_builtin;refine qA rfl (.tmp 5) (.tmp 6) 37 rfl 5 .u8 w.heap.size 1 Tryz.underlying37 qG _ [] rfl ho (some ad) n cap xs rfl (H.out.below (Bl.alloc (Bl.refl w) _)) (by simp;omega) (by simp;omega) (by simp) ?_;intro v2 w2 h3 h4 _)
   go_ret;exact ⟨_,rfl,by simpa using h3,(Bl.alloc (Bl.refl w) _).trans h4⟩
theorem qB7.g {B:Nat} {w:World} {v:Value} {is:List Ins} (h:qB7 B w v is) (ho:∀ I ∈ is,okI I):OwnG 51 4 InR B w v is:=by
 obtain ⟨ps,rfl,hrow,hin⟩:=h;refine ⟨ps.map IP.cells,by simp,⟨?_,?_⟩,fun i cs x h1 h2=>?_⟩
 ·rw [List.length_map]
  have e:(ps.map IP.cells).flatten=ps.flatMap IP.cells:=by rw [List.flatMap_def]
  rw [e];exact hrow
 ·intro r hr
  obtain ⟨p,_,rfl⟩:=List.mem_map.1 hr;rfl
 ·rw [List.getElem?_map] at h1 h2
  obtain ⟨p,hp,rfl⟩:=Option.map_eq_some_iff.1 h1;rw [hp] at h2;simp only [Option.map_some,Option.some.injEq] at h2;subst h2;have hm:=qXa hp;obtain ⟨hr,hC⟩:=hin p hm;have hok:=ho p.ins (List.mem_map.2 ⟨p,hm,rfl⟩);intro w' h';refine ⟨p.lo,p.ln,p.lc,rfl,⟨hr.len,hr.le,hr.max,hr.nil,fun ad ha i hi=>?_,hr.wf⟩,hok⟩;have hc:=hr.cell ad ha i hi;obtain ⟨k1,k2,k3⟩:=hC ad ha;have hb:(ad.add i).block=ad.block:=by unfold Addr.add;split <;> rfl
  exact (World.cell?_of_block (h' _ (by rw [hb];exact ⟨k3,k1,k2⟩))).trans hc
theorem qL5 (K p:Nat) (bo:List Ins) (tail:List Int) (w:World) (h:Rdw K p w (jN bo ++ (11 :: tail))) (hbo:qAm bo=true) (hok:∀ I ∈ bo,okI I) :
    Calls Tryz.prog 174 #[rp p] w fun e w'=>∃ v,e=.returned v /\ OwnG 51 4 InR w.heap.size w' v bo /\ Rdw K p w' tail /\ w.grownBy w' (some p):=by
 simp only [qAm,qXi,qXb] at hbo
 obtain ⟨bl,hbl⟩:=Option.isSome_iff_exists.1 hbo.1
 have hge:=qPm tail hbl hbo.2 hok
 have e1:jN bo ++ [11] ++ tail=jN bo ++ (11 :: tail):=by simp
 rw [e1] at hge
 obtain ⟨ao,rn,cap,hcell,hx⟩:=h.ex
 have hget:=qSz ao rn cap _ w hx.now
 rw [hge] at hget
 obtain ⟨m,hm⟩:∃ m,(jN bo).length + 1=m:=⟨_,rfl⟩
 rw [hm] at hget
 unfold qV0 at hget
 simp only at hget
 have HGET:=hid hget
 have HR:=hid h
 have hpw:=h.lt
 have HM:=hid hm
 clear hget hge e1 hx h hbo hbl hok hm
 go_enter Tryz.func174,Tryz.ntmps174
 go_wp2_with fail
 refine HGET.out.mono ?_
 rintro e w1 ⟨v,rfl,ho,hok,hlen,hb⟩
 have HO:=hid (ho.g hok)
 have hr1:=HR.out.below hb (qW8 _)
 have hp1:=jL K p w1 _ m hr1 (by rw [<- HM.out];simp) (m:Int) rfl
 have e2:(jN bo ++ (11 :: tail)).drop m=tail:=by rw [<- HM.out];simp [List.drop_append]
 rw [e2] at hp1
 have HP1:=hid hp1
 have HG:=hid (xR hb (qW8 _) (some p))
 obtain ⟨vo,vc,rfl,_,_,_⟩:=HO.out.shape
 obtain ⟨bn,hbn⟩:∃ bn,bo.length=bn:=⟨_,rfl⟩
 rw [hbn] at HO ⊢
 clear ho hok hlen hb hr1 hp1 e2 HGET hcell hbn
 go_wp2_with fail
 refine HP1.out.mono ?_
 rintro e w2 ⟨rfl,hr,hg⟩
 have HR2:=hid hr
 have HG2:=hid (qF HG.out hg)
 have HO2:=hid (HO.out.kept hg (fun q e=>by have h:p=q:=(by simpa using e);omega))
 clear hr hg HP1
 go_wp2_with fail
 go_ret
 exact ⟨_,rfl,HO2.out,HR2.out,HG2.out⟩
open Go.RowKit
theorem qOo (K p:Nat) (tail:List Int) (ao:Option Addr) (n cap:Nat) (xs:List Int) (w:World) (hr:Rdw K p w tail) (hx:Bx (fun b=>b < K) w fun w=>Rd .u8 w ao n cap xs) (hn:n <= 1000000) :
    Calls Tryz.prog 176 #[.slice ao n cap] w fun e w'=>∃ v,e=.returned v /\ OwnG 5 1 (IR .u8) w.heap.size w' v xs /\ Rdw K p w' tail /\ w.grownBy w' (some p):=by
 refine (qRi ao n cap xs w hx.now hn).mono ?_
 rintro e w' ⟨v,rfl,ho,hb⟩
 exact ⟨v,rfl,ho.g,hr.below hb (qW8 _),xR hb (qW8 _) _⟩
theorem qL6 (K p:Nat) (ls:List Int) (bo:List Ins) (tail:List Int) (w:World) (h:Rdw K p w (coE ⟨ls,bo⟩ ++ tail)) (hl:ls.length <= 32) (hm:ls.all yG=true) (hbo:qAm bo=true) (hok:∀ I ∈ bo,okI I):Calls Tryz.prog 120 #[rp p] w (qUa K p w ⟨ls,bo⟩ tail):=by
 have HOK:=hid hok
 have hlen:(qT ruE (zV ls) ++ (jN bo ++ [11])).length <= 8000000:=by
  have h1:=qJn ls hl;have h2:=qId hbo;rw [qW7];omega
 obtain ⟨L,hL⟩:∃ L,(qT ruE (zV ls) ++ (jN bo ++ [11])).length=L:=⟨_,rfl⟩
 rw [hL] at hlen;have EL:=hid hL;clear hL;clear hok
 obtain ⟨n1,hn1⟩:∃ n1,ls.length=n1:=⟨_,rfl⟩
 obtain ⟨n2,hn2⟩:∃ n2,bo.length=n2:=⟨_,rfl⟩
 have hKp:=h.le;have hpw:=h.lt;have HA:Hid (Cel (w.alloc (.cells #[.slice none 0 0,.slice none 0 0] 49)) w.heap.size [.slice none 0 0,.slice none 0 0]):=hid (Cel.new w [.slice none 0 0,.slice none 0 0] 49);have HR:=hid (h.alloc (.cells #[.slice none 0 0,.slice none 0 0] 49));have HG:=hid (qU (qO w (some p)) (.cells #[.slice none 0 0,.slice none 0 0] 49));clear h;go_enter Tryz.func120,Tryz.ntmps120;have hcall:=qI K p (w.alloc (.cells #[.slice none 0 0,.slice none 0 0] 49)) (L:Int) (qT ruE (zV ls) ++ (jN bo ++ (11 :: tail))) (by omega) (by omega) (by have h5:=HR.out;unfold coE szE at h5;rw [qXe,qXe,qXe,EL.out] at h5;exact h5);have HCALL:=hid hcall;clear hcall;go_wp2_with fail;refine HCALL.out.mono ?_;rintro e w1 ⟨rfl,hr,hg⟩;have HR:=hid hr;have HA:=hid (HA.out.grown (qW5 _) hg (by simp;omega));have HG:=hid (qF HG.out hg);have hszg:=HG.out.size;clear hr hg HCALL;have hBw:w.heap.size < w1.heap.size:=HA.out.lt (qW5 _);have hBp:p < w1.heap.size:=by omega
 have HB:Hid (Cel (w1.alloc (.cells #[.slice none 0 0,.slice none 0 0] 49)) w1.heap.size [.slice none 0 0,.slice none 0 0]):=hid (by have:=Cel.new w1 [.slice none 0 0,.slice none 0 0] 49;simpa using this);have HA:=hid (HA.out.below (qW5 _) (Bl.alloc (Bl.refl _) (.cells #[.slice none 0 0,.slice none 0 0] 49)));have HR:=hid (HR.out.alloc (.cells #[.slice none 0 0,.slice none 0 0] 49));have HG:=hid (qU HG.out (.cells #[.slice none 0 0,.slice none 0 0] 49));have hbl:w1.heap.size + 1 <= (w1.alloc (.cells #[.slice none 0 0,.slice none 0 0] 49)).heap.size:=HB.out.lt (qW5 _);have hcall:=qHn K p ls (jN bo ++ (11 :: tail)) (w1.alloc (.cells #[.slice none 0 0,.slice none 0 0] 49)) HR.out hl hm;have HCALL:=hid hcall;clear hcall;go_wp2_with fail;refine HCALL.out.mono ?_;rintro e w2 ⟨v,rfl,ho,hr,hg⟩;obtain ⟨o1,e1,rfl,_,_,_⟩:=ho.shape;rw [hn1] at ho ⊢;have HR:=hid hr;have HA:=hid (HA.out.grown (qW5 _) hg (by simp;omega));have HB:=hid (HB.out.grown (qW5 _) hg (by simp;omega));have HG:=hid (qF HG.out hg);have hszg:=HG.out.size;have HO1:=hid (ho.lift hbl);clear hr hg HCALL ho hbl;have b0:=HB.out.cell 0 _ rfl;have fb0:=HB.out.fro 0 _ rfl;have b1:=HB.out.cell 1 _ rfl;have fb1:=HB.out.fro 1 _ rfl;have HB:=hid (HB.out.set 0 (.slice o1 n1 e1) (by simp));have HA:=hid (HA.out.other (show w.heap.size ≠ w1.heap.size by omega) 0 (.slice o1 n1 e1));have hg2:=qH w2 ⟨w1.heap.size,0,none⟩ (.slice o1 n1 e1);have HR:=hid (HR.out.gr hg2 (fun q e=>by have h:w1.heap.size=q:=(by simpa using e);omega));have HG:=hid (q8 HG.out hg2 (fun q e=>by have h:w1.heap.size=q:=(by simpa using e);omega));have HO1:=hid (HO1.out.kept hg2 (fun q e=>by have h:w1.heap.size=q:=(by simpa using e);first | omega | (simp at *;omega)));clear hg2;have hbl:w1.heap.size + 1 <= (w2.setCell ⟨w1.heap.size,0,none⟩ (.slice o1 n1 e1)).heap.size:=HB.out.lt (qW5 _);have hcall:=qL5 K p bo tail (w2.setCell ⟨w1.heap.size,0,none⟩ (.slice o1 n1 e1)) HR.out hbo HOK.out;have HCALL:=hid hcall;clear hcall;go_wp2_with fail;refine HCALL.out.mono ?_;rintro e w3 ⟨v,rfl,ho,hr,hg⟩;obtain ⟨o2,e2,rfl,_,_,_⟩:=ho.shape;rw [hn2] at ho ⊢;have HR:=hid hr;have HA:=hid (HA.out.grown (qW5 _) hg (by simp;omega));have HB:=hid (HB.out.grown (qW5 _) hg (by simp;omega));have HO1:=hid (HO1.out.kept hg (fun q e=>by have h:p=q:=(by simpa using e);omega));have HG:=hid (qF HG.out hg);have hszg:=HG.out.size;have HO2:=hid (ho.lift hbl);clear hr hg HCALL ho hbl;have b0:=HB.out.cell 0 _ rfl;have fb0:=HB.out.fro 0 _ rfl;have b1:=HB.out.cell 1 _ rfl;have fb1:=HB.out.fro 1 _ rfl;have a0:=HA.out.cell 0 _ rfl;have fa0:=HA.out.fro 0 _ rfl;have a1:=HA.out.cell 1 _ rfl;have fa1:=HA.out.fro 1 _ rfl;have HB:=hid (HB.out.set 1 (.slice o2 n2 e2) (by simp));have HA:=hid (HA.out.other (show w.heap.size ≠ w1.heap.size by omega) 1 (.slice o2 n2 e2));have hg2:=qH w3 ⟨w1.heap.size,1,none⟩ (.slice o2 n2 e2);have HR:=hid (HR.out.gr hg2 (fun q e=>by have h:w1.heap.size=q:=(by simpa using e);omega));have HG:=hid (q8 HG.out hg2 (fun q e=>by have h:w1.heap.size=q:=(by simpa using e);omega));have HO1:=hid (HO1.out.kept hg2 (fun q e=>by have h:w1.heap.size=q:=(by simpa using e);first | omega | (simp at *;omega)));have HO2:=hid (HO2.out.kept hg2 (fun q e=>by have h:w1.heap.size=q:=(by simpa using e);first | omega | (simp at *;omega)));clear hg2
 have hgA:World.grownBy (w3.setCell ⟨w1.heap.size,1,none⟩ (.slice o2 n2 e2)) (((w3.setCell ⟨w1.heap.size,1,none⟩ (.slice o2 n2 e2)).setCell ⟨w.heap.size,0,none⟩ (.slice o1 n1 e1)).setCell ⟨w.heap.size,1,none⟩ (.slice o2 n2 e2)) (some w.heap.size):=(qC (qC (qO _ _) 0 _) 1 _)
 have HR:=hid (HR.out.gr hgA (fun q e=>by have h:w.heap.size=q:=(by simpa using e);omega));have HG:=hid (q8 HG.out hgA (fun q e=>by have h:w.heap.size=q:=(by simpa using e);omega));have HO1:=hid (HO1.out.kept hgA (fun q e=>by have h:w.heap.size=q:=(by simpa using e);omega));have HO2:=hid (HO2.out.kept hgA (fun q e=>by have h:w.heap.size=q:=(by simpa using e);omega));clear hgA;go_wp2_with fail;refine bodyPost_ret (v:=.agg #[.slice o1 n1 e1,.slice o2 n2 e2]) (by simp [results,Tryz.results120,go_sem,a0,a1]) rfl ⟨[.slice o1 n1 e1,.slice o2 n2 e2],rfl,?_,HR.out,HG.out⟩;have q1:=HO1.out.bxs (B0:=w.heap.size) (by omega);have q2:=HO2.out.bxs (B0:=w.heap.size) (by omega)
 exact fun w' h'=>⟨_,_,_,_,_,_,rfl,(q1 w' h').ints,q2 w' h'⟩
theorem qL7 (K p:Nat) (o:Int) (bs:List Int) (tail:List Int) (w:World) (h:Rdw K p w (daE ⟨o,bs⟩ ++ tail)) (ho':j6 o=true) (hl:bs.length <= 1000):Calls Tryz.prog 122 #[rp p] w (qUc K p w ⟨o,bs⟩ tail):=by
 obtain ⟨n1,hn1⟩:∃ n1,bs.length=n1:=⟨_,rfl⟩
 have hl1:n1 <= 1000:=by rw [<- hn1];exact hl
 have EN1:=hid hn1
 have htake:∀ {W:World},Calls Tryz.prog 157 #[rp p,.int .i64 (n1:Int)] W (fun e w'=>∃ ao cap,e=.returned (.slice ao n1 cap) /\ (Bx (fun b=>b < K) w' fun w=>Rd .u8 w ao n1 cap ((bs ++ tail).take n1)) /\ Rdw K p w' ((bs ++ tail).drop n1) /\ W.grownBy w' (some p)) -> Calls Tryz.prog 157 #[rp p,.int .i64 (n1:Int)] W (fun e w'=>∃ ao cap,e=.returned (.slice ao n1 cap) /\ (Bx (fun b=>b < K) w' fun w=>Rd .u8 w ao n1 cap bs) /\ Rdw K p w' tail /\ W.grownBy w' (some p)):=by
  intro W hh;have e1:(bs ++ tail).take n1=bs:=by rw [<- EN1.out];simp
  have e2:(bs ++ tail).drop n1=tail:=by rw [<- EN1.out];simp
  rw [e1,e2] at hh;exact hh
 have hKp:=h.le;have hpw:=h.lt;have HA:Hid (Cel (w.alloc (.cells #[.int .i64 0,.slice none 0 0] 44)) w.heap.size [.int .i64 0,.slice none 0 0]):=hid (Cel.new w [.int .i64 0,.slice none 0 0] 44);have HR:=hid (h.alloc (.cells #[.int .i64 0,.slice none 0 0] 44));have HG:=hid (qU (qO w (some p)) (.cells #[.int .i64 0,.slice none 0 0] 44));clear h;go_enter Tryz.func122,Tryz.ntmps122;have hcall:=jL K p (w.alloc (.cells #[.int .i64 0,.slice none 0 0] 44)) (0 :: (qBk 1 o ++ (szE bs ++ tail))) 1 (by have:=HR.out;simpa [daE] using this) (by simp) 1 rfl;have HCALL:=hid hcall;clear hcall;go_wp2_with fail;refine HCALL.out.mono ?_;rintro e w1 ⟨rfl,hr,hg⟩;have HR:=hid hr;have HA:=hid (HA.out.grown (qW5 _) hg (by simp;omega));have HG:=hid (qF HG.out hg);have hszg:=HG.out.size;clear hr hg HCALL;have hBw:w.heap.size < w1.heap.size:=HA.out.lt (qW5 _);have hBp:p < w1.heap.size:=by omega
 have HB:Hid (Cel (w1.alloc (.cells #[.int .i64 0,.slice none 0 0] 44)) w1.heap.size [.int .i64 0,.slice none 0 0]):=hid (by have:=Cel.new w1 [.int .i64 0,.slice none 0 0] 44;simpa using this);have HA:=hid (HA.out.below (qW5 _) (Bl.alloc (Bl.refl _) (.cells #[.int .i64 0,.slice none 0 0] 44)));have HR:=hid (HR.out.alloc (.cells #[.int .i64 0,.slice none 0 0] 44));have HG:=hid (qU HG.out (.cells #[.int .i64 0,.slice none 0 0] 44));have hcall:=qHj K p o (szE bs ++ tail) (w1.alloc (.cells #[.int .i64 0,.slice none 0 0] 44)) HR.out ho';have HCALL:=hid hcall;clear hcall;go_wp2_with fail;refine HCALL.out.mono ?_;rintro e w2 ⟨rfl,hr,hg⟩;have HR:=hid hr;have HA:=hid (HA.out.grown (qW5 _) hg (by simp;omega));have HB:=hid (HB.out.grown (qW5 _) hg (by simp;omega));have HG:=hid (qF HG.out hg);have hszg:=HG.out.size;clear hr hg HCALL;have b0:=HB.out.cell 0 _ rfl;have fb0:=HB.out.fro 0 _ rfl;have b1:=HB.out.cell 1 _ rfl;have fb1:=HB.out.fro 1 _ rfl;have HB:=hid (HB.out.set 0 (.int .i64 o) (by simp));have HA:=hid (HA.out.other (show w.heap.size ≠ w1.heap.size by omega) 0 (.int .i64 o));have hg2:=qH w2 ⟨w1.heap.size,0,none⟩ (.int .i64 o);have HR:=hid (HR.out.gr hg2 (fun q e=>by have h:w1.heap.size=q:=(by simpa using e);omega));have HG:=hid (q8 HG.out hg2 (fun q e=>by have h:w1.heap.size=q:=(by simpa using e);omega));clear hg2;have hcall:=qI K p (w2.setCell ⟨w1.heap.size,0,none⟩ (.int .i64 o)) (n1:Int) (bs ++ tail) (by omega) (by omega) (by have:=HR.out;unfold szE at this;rw [qXe,EN1.out] at this;exact this);have HCALL:=hid hcall;clear hcall;go_wp2_with fail;refine HCALL.out.mono ?_;rintro e w3 ⟨rfl,hr,hg⟩;have HR:=hid hr;have HA:=hid (HA.out.grown (qW5 _) hg (by simp;omega));have HB:=hid (HB.out.grown (qW5 _) hg (by simp;omega));have HG:=hid (qF HG.out hg);have hszg:=HG.out.size;clear hr hg HCALL;have hcall:=htake (qCr K p w3 (bs ++ tail) n1 HR.out (by rw [qW7,EN1.out];omega) (n1:Int) rfl);have HCALL:=hid hcall;clear hcall;go_wp2_with fail;refine HCALL.out.mono ?_;rintro e w4 ⟨ao,cap,rfl,hx,hr,hg⟩;have HX:=hid hx;clear hx;have HR:=hid hr;have HA:=hid (HA.out.grown (qW5 _) hg (by simp;omega));have HB:=hid (HB.out.grown (qW5 _) hg (by simp;omega));have HG:=hid (qF HG.out hg);have hszg:=HG.out.size;clear hr hg HCALL;have hbl:w1.heap.size + 1 <= w4.heap.size:=HB.out.lt (qW5 _);have hcall:=qOo K p tail ao n1 cap bs w4 HR.out HX.out (by omega);have HCALL:=hid hcall;clear hcall;go_wp2_with fail;refine HCALL.out.mono ?_;rintro e w5 ⟨v,rfl,ho,hr,hg⟩;obtain ⟨o1,e1,rfl,_,_,_⟩:=ho.shape;rw [hn1] at ho ⊢;have HR:=hid hr;have HA:=hid (HA.out.grown (qW5 _) hg (by simp;omega));have HB:=hid (HB.out.grown (qW5 _) hg (by simp;omega));have HG:=hid (qF HG.out hg);have hszg:=HG.out.size;have HO1:=hid (ho.lift hbl);clear hr hg HCALL ho hbl;have b0:=HB.out.cell 0 _ rfl;have fb0:=HB.out.fro 0 _ rfl;have b1:=HB.out.cell 1 _ rfl;have fb1:=HB.out.fro 1 _ rfl;have a0:=HA.out.cell 0 _ rfl;have fa0:=HA.out.fro 0 _ rfl;have a1:=HA.out.cell 1 _ rfl;have fa1:=HA.out.fro 1 _ rfl;have HB:=hid (HB.out.set 1 (.slice o1 n1 e1) (by simp));have HA:=hid (HA.out.other (show w.heap.size ≠ w1.heap.size by omega) 1 (.slice o1 n1 e1));have hg2:=qH w5 ⟨w1.heap.size,1,none⟩ (.slice o1 n1 e1);have HR:=hid (HR.out.gr hg2 (fun q e=>by have h:w1.heap.size=q:=(by simpa using e);omega));have HG:=hid (q8 HG.out hg2 (fun q e=>by have h:w1.heap.size=q:=(by simpa using e);omega));have HO1:=hid (HO1.out.kept hg2 (fun q e=>by have h:w1.heap.size=q:=(by simpa using e);first | omega | (simp at *;omega)));clear hg2
 have hgA:World.grownBy (w5.setCell ⟨w1.heap.size,1,none⟩ (.slice o1 n1 e1)) (((w5.setCell ⟨w1.heap.size,1,none⟩ (.slice o1 n1 e1)).setCell ⟨w.heap.size,0,none⟩ (.int .i64 o)).setCell ⟨w.heap.size,1,none⟩ (.slice o1 n1 e1)) (some w.heap.size):=(qC (qC (qO _ _) 0 _) 1 _)
 have HR:=hid (HR.out.gr hgA (fun q e=>by have h:w.heap.size=q:=(by simpa using e);omega));have HG:=hid (q8 HG.out hgA (fun q e=>by have h:w.heap.size=q:=(by simpa using e);omega));have HO1:=hid (HO1.out.kept hgA (fun q e=>by have h:w.heap.size=q:=(by simpa using e);omega));clear hgA;go_wp2_with fail;refine bodyPost_ret (v:=.agg #[.int .i64 o,.slice o1 n1 e1]) (by simp [results,Tryz.results122,go_sem,a0,a1]) rfl ⟨[.int .i64 o,.slice o1 n1 e1],rfl,?_,HR.out,HG.out⟩;have q1:=HO1.out.bxs (B0:=w.heap.size) (by omega)
 exact fun w' h'=>⟨_,_,_,rfl,(q1 w' h').ints⟩
open Go.RowKit
theorem qIv {K p:Nat} {w w':World} {x y:Int} {tail:List Int} (hr:Rdw K p w' tail) (hg:w.grownBy w' (some p)):qOi K p w ⟨true,x,y⟩ tail (.returned (.agg #[.bool true,.int .i64 x,.int .i64 y])) w' :=
 ⟨[.bool true,.int .i64 x,.int .i64 y],rfl,Bx.pure rfl,hr,hg⟩
theorem qCc (K p:Nat) (x y:Int) (tail:List Int) (w:World) (h:Rdw K p w (liE ⟨true,x,y⟩ ++ tail)) (h0:0 <= x) (h1:x <= 100000) (g0:-1 <= y) (g1:y <= 100000) :
    Calls Tryz.prog 112 #[rp p] w (qOi K p w ⟨true,x,y⟩ tail):=by
 have hKp:=h.le
 have hpw:=h.lt
 have hr0:=(h.alloc (.cells #[.bool false,.int .i64 0,.int .i64 0] 26)).alloc (.cells #[.bool true,.int .i64 0,.int .i64 (-1)] 26)
 have HA0:Hid (Cel ((w.alloc (.cells #[.bool false,.int .i64 0,.int .i64 0] 26)).alloc (.cells #[.bool true,.int .i64 0,.int .i64 (-1)] 26)) w.heap.size [.bool false,.int .i64 0,.int .i64 0]):=hid ((Cel.new w [.bool false,.int .i64 0,.int .i64 0] 26).below (qW5 _) (Bl.alloc (Bl.refl _) _))
 have HB0:Hid (Cel ((w.alloc (.cells #[.bool false,.int .i64 0,.int .i64 0] 26)).alloc (.cells #[.bool true,.int .i64 0,.int .i64 (-1)] 26)) (w.heap.size + 1) [.bool true,.int .i64 0,.int .i64 (-1)]):=hid (by have:=Cel.new (w.alloc (.cells #[.bool false,.int .i64 0,.int .i64 0] 26)) [.bool true,.int .i64 0,.int .i64 (-1)] 26;simpa using this)
 have HG0:=hid (qU (qU (qO w (some p)) (.cells #[.bool false,.int .i64 0,.int .i64 0] 26)) (.cells #[.bool true,.int .i64 0,.int .i64 (-1)] 26))
 by_cases hy:y=-1
 ·subst hy
  have hone:=qDo K p _ 0 (jG x ++ tail) hr0;have HONE:=hid hone;clear h hr0 hone;go_enter Tryz.func112,Tryz.ntmps112;go_wp2_with fail;refine HONE.out.mono ?_;rintro e w1 ⟨rfl,hr,hg⟩;have hnum:=qI K p w1 x tail h0 (by omega) hr;have HNUM:=hid hnum;have HA1:=hid (HA0.out.grown (qW5 _) hg (by simp;omega));have HB1:=hid (HB0.out.grown (qW5 _) hg (by simp;omega));have HG1:=hid (qF HG0.out hg);clear hr hg hnum HONE HA0 HB0 HG0;go_wp2_with fail;refine HNUM.out.mono ?_;rintro e w2 ⟨rfl,hr,hg⟩;have HA2:=hid (HA1.out.grown (qW5 _) hg (by simp;omega));have HB2:=hid (HB1.out.grown (qW5 _) hg (by simp;omega));have HG2:=hid (qF HG1.out hg);have HR2:=hid hr;have b0:=HB2.out.cell 0 _ rfl;have b1:=HB2.out.cell 1 _ rfl;have b2:=HB2.out.cell 2 _ rfl;have fb1:=HB2.out.fro 1 _ rfl;have a0:=HA2.out.cell 0 _ rfl;have a1:=HA2.out.cell 1 _ rfl;have a2:=HA2.out.cell 2 _ rfl;have fa0:=HA2.out.fro 0 _ rfl;have fa1:=HA2.out.fro 1 _ rfl;have fa2:=HA2.out.fro 2 _ rfl;have hgB:=qH w2 ⟨w.heap.size + 1,1,none⟩ (.int .i64 x);have hgA:World.grownBy (w2.setCell ⟨w.heap.size + 1,1,none⟩ (.int .i64 x)) ((((w2.setCell ⟨w.heap.size + 1,1,none⟩ (.int .i64 x)).setCell ⟨w.heap.size,0,none⟩ (.bool true)).setCell ⟨w.heap.size,1,none⟩ (.int .i64 x)).setCell ⟨w.heap.size,2,none⟩ (.int .i64 (-1))) (some w.heap.size):=qC (qC (qC (qO _ _) 0 _) 1 _) 2 _;have HR3:=hid ((HR2.out.gr hgB (fun q e=>by have h:w.heap.size + 1=q:=(by simpa using e);omega)).gr hgA (fun q e=>by have h:w.heap.size=q:=(by simpa using e);omega));have HG3:=hid (q8 (q8 HG2.out hgB (fun q e=>by have h:w.heap.size + 1=q:=(by simpa using e);omega)) hgA (fun q e=>by have h:w.heap.size=q:=(by simpa using e);omega));clear hr hg HNUM HA1 HB1 HG1 HA2 HB2 HG2 HR2 hgA hgB;go_wp2_with fail;exact bodyPost_ret (v:=.agg #[.bool true,.int .i64 x,.int .i64 (-1)]) (by simp [results,Tryz.results112,go_sem,a0,a1,a2]) rfl (qIv HR3.out HG3.out)
 ·have e1:liE ⟨true,x,y⟩=1 :: (jG x ++ jG y):=by unfold liE;rw [if_neg hy]
  rw [e1] at hr0;have hone:=qDo K p _ 1 (jG x ++ (jG y ++ tail)) (by simpa using hr0);have HONE:=hid hone;clear h hr0 hone e1;go_enter Tryz.func112,Tryz.ntmps112;go_wp2_with fail;refine HONE.out.mono ?_;rintro e w1 ⟨rfl,hr,hg⟩;have hnum:=qI K p w1 x (jG y ++ tail) h0 (by omega) hr;have HNUM:=hid hnum;have HA1:=hid (HA0.out.grown (qW5 _) hg (by simp;omega));have HB1:=hid (HB0.out.grown (qW5 _) hg (by simp;omega));have HG1:=hid (qF HG0.out hg);clear hr hg hnum HONE HA0 HB0 HG0;go_wp2_with fail;refine HNUM.out.mono ?_;rintro e w2 ⟨rfl,hr,hg⟩;have hgB:=qH w2 ⟨w.heap.size + 1,1,none⟩ (.int .i64 x);have hr2:=hr.gr hgB (fun q e=>by have h:w.heap.size + 1=q:=(by simpa using e);omega);have hnum2:=qI K p _ y tail (by omega) (by omega) hr2;have HNUM2:=hid hnum2;have HA2:=hid (HA1.out.grown (qW5 _) hg (by simp;omega));have HB2:=hid (HB1.out.grown (qW5 _) hg (by simp;omega));have b1:=HB2.out.cell 1 _ rfl;have fb1:=HB2.out.fro 1 _ rfl;have HA3:=hid (HA2.out.other (show w.heap.size ≠ w.heap.size + 1 by omega) 1 (.int .i64 x));have HB3:=hid (HB2.out.set 1 (.int .i64 x) (by simp));have HG3:=hid (q8 (qF HG1.out hg) hgB (fun q e=>by have h:w.heap.size + 1=q:=(by simpa using e);omega));clear hr hg hgB hr2 hnum2 HNUM HA1 HB1 HG1 HA2 HB2;go_wp2_with fail;refine HNUM2.out.mono ?_;rintro e w3 ⟨rfl,hr,hg⟩;have HA4:=hid (HA3.out.grown (qW5 _) hg (by simp;omega));have HB4:=hid (HB3.out.grown (qW5 _) hg (by simp;omega));have HG4:=hid (qF HG3.out hg);have HR4:=hid hr;have b0:=HB4.out.cell 0 _ rfl;have b1:=HB4.out.cell 1 _ rfl;have b2:=HB4.out.cell 2 _ rfl;have fb2:=HB4.out.fro 2 _ rfl;have a0:=HA4.out.cell 0 _ rfl;have a1:=HA4.out.cell 1 _ rfl;have a2:=HA4.out.cell 2 _ rfl;have fa0:=HA4.out.fro 0 _ rfl;have fa1:=HA4.out.fro 1 _ rfl;have fa2:=HA4.out.fro 2 _ rfl;have hgB:=qH w3 ⟨w.heap.size + 1,2,none⟩ (.int .i64 y);have hgA:World.grownBy (w3.setCell ⟨w.heap.size + 1,2,none⟩ (.int .i64 y)) ((((w3.setCell ⟨w.heap.size + 1,2,none⟩ (.int .i64 y)).setCell ⟨w.heap.size,0,none⟩ (.bool true)).setCell ⟨w.heap.size,1,none⟩ (.int .i64 x)).setCell ⟨w.heap.size,2,none⟩ (.int .i64 y)) (some w.heap.size):=qC (qC (qC (qO _ _) 0 _) 1 _) 2 _;have HR5:=hid ((HR4.out.gr hgB (fun q e=>by have h:w.heap.size + 1=q:=(by simpa using e);omega)).gr hgA (fun q e=>by have h:w.heap.size=q:=(by simpa using e);omega));have HG5:=hid (q8 (q8 HG4.out hgB (fun q e=>by have h:w.heap.size + 1=q:=(by simpa using e);omega)) hgA (fun q e=>by have h:w.heap.size=q:=(by simpa using e);omega));clear hr hg HNUM2 HA3 HB3 HG3 HA4 HB4 HG4 HR4 hgA hgB;go_wp2_with fail;exact bodyPost_ret (v:=.agg #[.bool true,.int .i64 x,.int .i64 y]) (by simp [results,Tryz.results112,go_sem,a0,a1,a2]) rfl (qIv HR5.out HG5.out)
theorem qIw (K p:Nat) (x y:Int) (tail:List Int) (w:World) (h:Rdw K p w (taE ⟨true,x,y⟩ ++ tail)) (h0:0 <= x) (h1:x <= 100000) (g0:-1 <= y) (g1:y <= 100000) :
    Calls Tryz.prog 111 #[rp p] w (qOi K p w ⟨true,x,y⟩ tail):=by
 have hKp:=h.le
 have hpw:=h.lt
 have hr0:=h.alloc (.cells #[.bool false,.int .i64 0,.int .i64 0] 26)
 have HA0:=hid (Cel.new w [.bool false,.int .i64 0,.int .i64 0] 26)
 have HG0:=hid (qU (qO w (some p)) (.cells #[.bool false,.int .i64 0,.int .i64 0] 26))
 have hpass:=jL K p _ _ 1 hr0 (by simp [taE]) 1 rfl
 have e2:(taE ⟨true,x,y⟩ ++ tail).drop 1=liE ⟨true,x,y⟩ ++ tail:=by simp [taE]
 rw [e2] at hpass
 have HPASS:=hid hpass
 clear h hr0 hpass e2
 go_enter Tryz.func111,Tryz.ntmps111
 go_wp2_with fail
 refine HPASS.out.mono ?_
 rintro e w1 ⟨rfl,hr,hg⟩
 have hlim:=qCc K p x y tail w1 hr h0 h1 g0 g1
 have HLIM:=hid hlim
 have HA1:=hid (HA0.out.grown (qW5 _) hg (by simp;omega))
 have HG1:=hid (qF HG0.out hg)
 clear hr hg hlim HPASS HA0 HG0
 go_wp2_with fail
 refine HLIM.out.mono ?_
 rintro e w2 ⟨cs,rfl,hbx,hr,hg⟩
 obtain rfl:=hbx.now
 have HA2:=hid (HA1.out.grown (qW5 _) hg (by simp;omega))
 have HG2:=hid (qF HG1.out hg)
 have HR2:=hid hr
 have a0:=HA2.out.cell 0 _ rfl
 have a1:=HA2.out.cell 1 _ rfl
 have a2:=HA2.out.cell 2 _ rfl
 have fa0:=HA2.out.fro 0 _ rfl
 have fa1:=HA2.out.fro 1 _ rfl
 have fa2:=HA2.out.fro 2 _ rfl
 have hgA:World.grownBy w2 (((w2.setCell ⟨w.heap.size,0,none⟩ (.bool true)).setCell ⟨w.heap.size,1,none⟩ (.int .i64 x)).setCell ⟨w.heap.size,2,none⟩ (.int .i64 y)) (some w.heap.size):=qC (qC (qC (qO _ _) 0 _) 1 _) 2 _
 have HR3:=hid (HR2.out.gr hgA (fun q e=>by have h:w.heap.size=q:=(by simpa using e);omega))
 have HG3:=hid (q8 HG2.out hgA (fun q e=>by have h:w.heap.size=q:=(by simpa using e);omega))
 clear hbx hr hg HLIM HA1 HG1 HA2 HG2 HR2 hgA
 simp only
 go_wp2_with fail
 exact bodyPost_ret (v:=.agg #[.bool true,.int .i64 x,.int .i64 y]) (by simp [results,Tryz.results111,go_sem,a0,a1,a2]) rfl (qIv HR3.out HG3.out)
theorem qL8 (x:MLi) (ao:Option Addr) (cap:Nat) (w:World) (h:Rx w fun w=>RdG 3 LiR w ao 1 cap [x]):Calls Tryz.prog 109 #[.slice ao 1 cap] w fun e w'=>e=.returned (.agg #[.bool x.has,.int .i64 x.mn,.int .i64 x.mx]) /\ Below w.heap.size w w':=by
 obtain ⟨b,off,cs,rfl,_,hR,hc⟩:=RdG.elem h (i:=0) (x:=x) rfl;obtain rfl:=hR.now;have c0:=hc 0 _ rfl;have c1:=hc 1 _ rfl;have c2:=hc 2 _ rfl;rw [Nat.zero_mul,qXd] at c0 c1 c2;have hb:=qXc w _ c0;clear h hR hc;go_enter Tryz.func109,Tryz.ntmps109;go_wp2_with fail;go_returns;exact ⟨rfl,Bl.alloc (Bl.refl w) _⟩
open Go.RowKit
def qAf (kn:Int) (tail:List Int):Prop:=tail=[] ∨ ∃ b r,tail=b :: r /\ b ≠ kn
theorem qVp (kn:Int) (g:Nat) (f:Int -> List Int) (K p:Nat) (xs:List (Int)) (tail:List Int) (w:World) (h:Rdw K p w (qL kn f xs ++ tail)) (hnk:qAf kn tail) (he:∀ args w,(callFunc g args).run Tryz.prog w=.ok (.enter g args) w) (hn:xs.length <= 100000)
    (hsz:(qT f xs).length <= 100000) (hne:∀ x ∈ xs,0 < (f x).length)
    (HF:∀ w x t,x ∈ xs -> Rdw K p w (f x ++ t) -> Calls Tryz.prog g #[rp p] w (qWl K p w x t)) :
    Calls Tryz.prog 107 #[rp p,.int .u8 kn,.func (.func g) #[] #[]] w fun e w'=>∃ v,e=.returned v /\ OwnG 3 1 (IR .i64) w.heap.size w' v xs /\ Rdw K p w' tail /\ w.grownBy w' (some p):=by
 obtain ⟨ro,rn,rc,hcell,hrx⟩:=h.ex
 have hrd:=hrx.now
 have hrl:=hrd.len
 have H:=hid h
 have HFF:=hid HF
 have HNE:=hid hne
 clear HF hne hrx
 cases xs with
 | nil =>
   have hr2:Rdw K p w tail:=h;have HR:=hid hr2;simp only [qL,List.nil_append] at hrd hrl;rcases hnk with rfl | ⟨b,r,rfl,hb⟩
   ·simp at hrl
    subst hrl;clear h hr2 hrd H;go_enter Tryz.func107,Tryz.ntmps107;go_wp2_with fail;go_ret;exact ⟨_,rfl,OwnG.nil _ _ _ _ _,HR.out,qO _ _⟩
   ·have hp:0 < rn:=by rw [<- hrl];simp
    have hp':((rn:Int) == 0)=false:=by simp;omega
    have hbk:(b != kn)=true:=by simp [hb]
    obtain ⟨q,off,rfl,hc⟩:=hrd.at hp;have hc0:=hc 0 hp;simp only [qXx,qXd] at hc0;clear h hr2 hrd H hc hrl hb;go_enter Tryz.func107,Tryz.ntmps107;go_wp2_with fail;go_ret;exact ⟨_,rfl,OwnG.nil _ _ _ _ _,HR.out,qO _ _⟩
 | cons x l =>
   have es:qL kn f (x :: l)=kn :: szE (qT f (x :: l)):=rfl;rw [es,List.cons_append] at hrd hrl;have hr0:Rdw K p w (kn :: (szE (qT f (x :: l)) ++ tail)):=by have:=H.out;rw [es] at this;exact this
   have hp:0 < rn:=by rw [<- hrl];simp
   have hp':((rn:Int) == 0)=false:=by simp;omega
   obtain ⟨q,off,rfl,hc⟩:=hrd.at hp;have hc0:=hc 0 hp;simp only [qXx,qXd] at hc0;have hpass:=jL K p w _ 1 hr0 (by simp) 1 rfl;simp only [qXm,qXv] at hpass;have HPASS:=hid hpass;clear h hrd H hc hrl es hr0 hpass hnk;go_enter Tryz.func107,Tryz.ntmps107;go_wp2_with fail;refine HPASS.out.mono ?_;rintro e w1 ⟨rfl,hr1,hg1⟩;have hnum:=qI K p w1 ((qT f (x :: l)).length:Int) (qT f (x :: l) ++ tail) (by omega) (by omega) (by unfold szE at hr1;rw [qXe] at hr1;exact hr1);have HNUM:=hid hnum;have HG1:=hid hg1;have hs1:=hg1.size;clear hr1 hg1 hnum HPASS hc0 hcell;go_wp2_with fail;refine HNUM.out.mono ?_;rintro e w2 ⟨rfl,hr2,hg2⟩;have hvec:=qOh g f K p (x :: l) tail w2 hr2 he hn HNE.out HFF.out;have HVEC:=hid hvec;have HG2:=hid (qF HG1.out hg2);have hs2:=HG2.out.size;clear hr2 hg2 hvec HNUM;go_wp2_with fail;refine HVEC.out.mono ?_;rintro e w3 ⟨v,rfl,ho,hr3,hg3⟩;have HO3:=hid (ho.lift hs2);have HR3:=hid hr3;have HG3:=hid (qF HG2.out hg3);clear ho hr3 hg3 HVEC;go_wp2_with fail;go_ret;exact ⟨_,rfl,HO3.out,HR3.out,HG3.out⟩
theorem qUf (kn:Int) (g:Nat) (f:MTy -> List Int) (K p:Nat) (xs:List (MTy)) (tail:List Int) (w:World) (h:Rdw K p w (qL kn f xs ++ tail)) (hnk:qAf kn tail) (he:∀ args w,(callFunc g args).run Tryz.prog w=.ok (.enter g args) w) (hn:xs.length <= 100000)
    (hsz:(qT f xs).length <= 100000) (hne:∀ x ∈ xs,0 < (f x).length)
    (HF:∀ w x t,x ∈ xs -> Rdw K p w (f x ++ t) -> Calls Tryz.prog g #[rp p] w (qT0 K p w x t)) :
    Calls Tryz.prog 103 #[rp p,.int .u8 kn,.func (.func g) #[] #[]] w fun e w'=>∃ v,e=.returned v /\ OwnG 53 2 (TyR) w.heap.size w' v xs /\ Rdw K p w' tail /\ w.grownBy w' (some p):=by
 obtain ⟨ro,rn,rc,hcell,hrx⟩:=h.ex
 have hrd:=hrx.now
 have hrl:=hrd.len
 have H:=hid h
 have HFF:=hid HF
 have HNE:=hid hne
 clear HF hne hrx
 cases xs with
 | nil =>
   have hr2:Rdw K p w tail:=h;have HR:=hid hr2;simp only [qL,List.nil_append] at hrd hrl;rcases hnk with rfl | ⟨b,r,rfl,hb⟩
   ·simp at hrl
    subst hrl;clear h hr2 hrd H;go_enter Tryz.func103,Tryz.ntmps103;go_wp2_with fail;go_ret;exact ⟨_,rfl,OwnG.nil _ _ _ _ _,HR.out,qO _ _⟩
   ·have hp:0 < rn:=by rw [<- hrl];simp
    have hp':((rn:Int) == 0)=false:=by simp;omega
    have hbk:(b != kn)=true:=by simp [hb]
    obtain ⟨q,off,rfl,hc⟩:=hrd.at hp;have hc0:=hc 0 hp;simp only [qXx,qXd] at hc0;clear h hr2 hrd H hc hrl hb;go_enter Tryz.func103,Tryz.ntmps103;go_wp2_with fail;go_ret;exact ⟨_,rfl,OwnG.nil _ _ _ _ _,HR.out,qO _ _⟩
 | cons x l =>
   have es:qL kn f (x :: l)=kn :: szE (qT f (x :: l)):=rfl;rw [es,List.cons_append] at hrd hrl;have hr0:Rdw K p w (kn :: (szE (qT f (x :: l)) ++ tail)):=by have:=H.out;rw [es] at this;exact this
   have hp:0 < rn:=by rw [<- hrl];simp
   have hp':((rn:Int) == 0)=false:=by simp;omega
   obtain ⟨q,off,rfl,hc⟩:=hrd.at hp;have hc0:=hc 0 hp;simp only [qXx,qXd] at hc0;have hpass:=jL K p w _ 1 hr0 (by simp) 1 rfl;simp only [qXm,qXv] at hpass;have HPASS:=hid hpass;clear h hrd H hc hrl es hr0 hpass hnk;go_enter Tryz.func103,Tryz.ntmps103;go_wp2_with fail;refine HPASS.out.mono ?_;rintro e w1 ⟨rfl,hr1,hg1⟩;have hnum:=qI K p w1 ((qT f (x :: l)).length:Int) (qT f (x :: l) ++ tail) (by omega) (by omega) (by unfold szE at hr1;rw [qXe] at hr1;exact hr1);have HNUM:=hid hnum;have HG1:=hid hg1;have hs1:=hg1.size;clear hr1 hg1 hnum HPASS hc0 hcell;go_wp2_with fail;refine HNUM.out.mono ?_;rintro e w2 ⟨rfl,hr2,hg2⟩;have hvec:=qT1 g f K p (x :: l) tail w2 hr2 he hn HNE.out HFF.out;have HVEC:=hid hvec;have HG2:=hid (qF HG1.out hg2);have hs2:=HG2.out.size;clear hr2 hg2 hvec HNUM;go_wp2_with fail;refine HVEC.out.mono ?_;rintro e w3 ⟨v,rfl,ho,hr3,hg3⟩;have HO3:=hid (ho.lift hs2);have HR3:=hid hr3;have HG3:=hid (qF HG2.out hg3);clear ho hr3 hg3 HVEC;go_wp2_with fail;go_ret;exact ⟨_,rfl,HO3.out,HR3.out,HG3.out⟩
theorem qUg (kn:Int) (g:Nat) (f:MIm -> List Int) (K p:Nat) (xs:List (MIm)) (tail:List Int) (w:World) (h:Rdw K p w (qL kn f xs ++ tail)) (hnk:qAf kn tail) (he:∀ args w,(callFunc g args).run Tryz.prog w=.ok (.enter g args) w) (hn:xs.length <= 100000)
    (hsz:(qT f xs).length <= 100000) (hne:∀ x ∈ xs,0 < (f x).length)
    (HF:∀ w x t,x ∈ xs -> Rdw K p w (f x ++ t) -> Calls Tryz.prog g #[rp p] w (qT2 K p w x t)) :
    Calls Tryz.prog 105 #[rp p,.int .u8 kn,.func (.func g) #[] #[]] w fun e w'=>∃ v,e=.returned v /\ OwnG 62 3 (ImR) w.heap.size w' v xs /\ Rdw K p w' tail /\ w.grownBy w' (some p):=by
 obtain ⟨ro,rn,rc,hcell,hrx⟩:=h.ex
 have hrd:=hrx.now
 have hrl:=hrd.len
 have H:=hid h
 have HFF:=hid HF
 have HNE:=hid hne
 clear HF hne hrx
 cases xs with
 | nil =>
   have hr2:Rdw K p w tail:=h;have HR:=hid hr2;simp only [qL,List.nil_append] at hrd hrl;rcases hnk with rfl | ⟨b,r,rfl,hb⟩
   ·simp at hrl
    subst hrl;clear h hr2 hrd H;go_enter Tryz.func105,Tryz.ntmps105;go_wp2_with fail;go_ret;exact ⟨_,rfl,OwnG.nil _ _ _ _ _,HR.out,qO _ _⟩
   ·have hp:0 < rn:=by rw [<- hrl];simp
    have hp':((rn:Int) == 0)=false:=by simp;omega
    have hbk:(b != kn)=true:=by simp [hb]
    obtain ⟨q,off,rfl,hc⟩:=hrd.at hp;have hc0:=hc 0 hp;simp only [qXx,qXd] at hc0;clear h hr2 hrd H hc hrl hb;go_enter Tryz.func105,Tryz.ntmps105;go_wp2_with fail;go_ret;exact ⟨_,rfl,OwnG.nil _ _ _ _ _,HR.out,qO _ _⟩
 | cons x l =>
   have es:qL kn f (x :: l)=kn :: szE (qT f (x :: l)):=rfl;rw [es,List.cons_append] at hrd hrl;have hr0:Rdw K p w (kn :: (szE (qT f (x :: l)) ++ tail)):=by have:=H.out;rw [es] at this;exact this
   have hp:0 < rn:=by rw [<- hrl];simp
   have hp':((rn:Int) == 0)=false:=by simp;omega
   obtain ⟨q,off,rfl,hc⟩:=hrd.at hp;have hc0:=hc 0 hp;simp only [qXx,qXd] at hc0;have hpass:=jL K p w _ 1 hr0 (by simp) 1 rfl;simp only [qXm,qXv] at hpass;have HPASS:=hid hpass;clear h hrd H hc hrl es hr0 hpass hnk;go_enter Tryz.func105,Tryz.ntmps105;go_wp2_with fail;refine HPASS.out.mono ?_;rintro e w1 ⟨rfl,hr1,hg1⟩;have hnum:=qI K p w1 ((qT f (x :: l)).length:Int) (qT f (x :: l) ++ tail) (by omega) (by omega) (by unfold szE at hr1;rw [qXe] at hr1;exact hr1);have HNUM:=hid hnum;have HG1:=hid hg1;have hs1:=hg1.size;clear hr1 hg1 hnum HPASS hc0 hcell;go_wp2_with fail;refine HNUM.out.mono ?_;rintro e w2 ⟨rfl,hr2,hg2⟩;have hvec:=qT3 g f K p (x :: l) tail w2 hr2 he hn HNE.out HFF.out;have HVEC:=hid hvec;have HG2:=hid (qF HG1.out hg2);have hs2:=HG2.out.size;clear hr2 hg2 hvec HNUM;go_wp2_with fail;refine HVEC.out.mono ?_;rintro e w3 ⟨v,rfl,ho,hr3,hg3⟩;have HO3:=hid (ho.lift hs2);have HR3:=hid hr3;have HG3:=hid (qF HG2.out hg3);clear ho hr3 hg3 HVEC;go_wp2_with fail;go_ret;exact ⟨_,rfl,HO3.out,HR3.out,HG3.out⟩
theorem qOp (kn:Int) (g:Nat) (f:MLi -> List Int) (K p:Nat) (xs:List (MLi)) (tail:List Int) (w:World) (h:Rdw K p w (qL kn f xs ++ tail)) (hnk:qAf kn tail) (he:∀ args w,(callFunc g args).run Tryz.prog w=.ok (.enter g args) w) (hn:xs.length <= 100000)
    (hsz:(qT f xs).length <= 100000) (hne:∀ x ∈ xs,0 < (f x).length)
    (HF:∀ w x t,x ∈ xs -> Rdw K p w (f x ++ t) -> Calls Tryz.prog g #[rp p] w (qOi K p w x t)) :
    Calls Tryz.prog 110 #[rp p,.int .u8 kn,.func (.func g) #[] #[]] w fun e w'=>∃ v,e=.returned v /\ OwnG 26 3 (LiR) w.heap.size w' v xs /\ Rdw K p w' tail /\ w.grownBy w' (some p):=by
 obtain ⟨ro,rn,rc,hcell,hrx⟩:=h.ex
 have hrd:=hrx.now
 have hrl:=hrd.len
 have H:=hid h
 have HFF:=hid HF
 have HNE:=hid hne
 clear HF hne hrx
 cases xs with
 | nil =>
   have hr2:Rdw K p w tail:=h;have HR:=hid hr2;simp only [qL,List.nil_append] at hrd hrl;rcases hnk with rfl | ⟨b,r,rfl,hb⟩
   ·simp at hrl
    subst hrl;clear h hr2 hrd H;go_enter Tryz.func110,Tryz.ntmps110;go_wp2_with fail;go_ret;exact ⟨_,rfl,OwnG.nil _ _ _ _ _,HR.out,qO _ _⟩
   ·have hp:0 < rn:=by rw [<- hrl];simp
    have hp':((rn:Int) == 0)=false:=by simp;omega
    have hbk:(b != kn)=true:=by simp [hb]
    obtain ⟨q,off,rfl,hc⟩:=hrd.at hp;have hc0:=hc 0 hp;simp only [qXx,qXd] at hc0;clear h hr2 hrd H hc hrl hb;go_enter Tryz.func110,Tryz.ntmps110;go_wp2_with fail;go_ret;exact ⟨_,rfl,OwnG.nil _ _ _ _ _,HR.out,qO _ _⟩
 | cons x l =>
   have es:qL kn f (x :: l)=kn :: szE (qT f (x :: l)):=rfl;rw [es,List.cons_append] at hrd hrl;have hr0:Rdw K p w (kn :: (szE (qT f (x :: l)) ++ tail)):=by have:=H.out;rw [es] at this;exact this
   have hp:0 < rn:=by rw [<- hrl];simp
   have hp':((rn:Int) == 0)=false:=by simp;omega
   obtain ⟨q,off,rfl,hc⟩:=hrd.at hp;have hc0:=hc 0 hp;simp only [qXx,qXd] at hc0;have hpass:=jL K p w _ 1 hr0 (by simp) 1 rfl;simp only [qXm,qXv] at hpass;have HPASS:=hid hpass;clear h hrd H hc hrl es hr0 hpass hnk;go_enter Tryz.func110,Tryz.ntmps110;go_wp2_with fail;refine HPASS.out.mono ?_;rintro e w1 ⟨rfl,hr1,hg1⟩;have hnum:=qI K p w1 ((qT f (x :: l)).length:Int) (qT f (x :: l) ++ tail) (by omega) (by omega) (by unfold szE at hr1;rw [qXe] at hr1;exact hr1);have HNUM:=hid hnum;have HG1:=hid hg1;have hs1:=hg1.size;clear hr1 hg1 hnum HPASS hc0 hcell;go_wp2_with fail;refine HNUM.out.mono ?_;rintro e w2 ⟨rfl,hr2,hg2⟩;have hvec:=qT4 g f K p (x :: l) tail w2 hr2 he hn HNE.out HFF.out;have HVEC:=hid hvec;have HG2:=hid (qF HG1.out hg2);have hs2:=HG2.out.size;clear hr2 hg2 hvec HNUM;go_wp2_with fail;refine HVEC.out.mono ?_;rintro e w3 ⟨v,rfl,ho,hr3,hg3⟩;have HO3:=hid (ho.lift hs2);have HR3:=hid hr3;have HG3:=hid (qF HG2.out hg3);clear ho hr3 hg3 HVEC;go_wp2_with fail;go_ret;exact ⟨_,rfl,HO3.out,HR3.out,HG3.out⟩
theorem qUh (kn:Int) (g:Nat) (f:MGl -> List Int) (K p:Nat) (xs:List (MGl)) (tail:List Int) (w:World) (h:Rdw K p w (qL kn f xs ++ tail)) (hnk:qAf kn tail) (he:∀ args w,(callFunc g args).run Tryz.prog w=.ok (.enter g args) w) (hn:xs.length <= 100000)
    (hsz:(qT f xs).length <= 100000) (hne:∀ x ∈ xs,0 < (f x).length)
    (HF:∀ w x t,x ∈ xs -> Rdw K p w (f x ++ t) -> Calls Tryz.prog g #[rp p] w (qRg K p w x t)) :
    Calls Tryz.prog 113 #[rp p,.int .u8 kn,.func (.func g) #[] #[]] w fun e w'=>∃ v,e=.returned v /\ OwnG 58 3 (GlR) w.heap.size w' v xs /\ Rdw K p w' tail /\ w.grownBy w' (some p):=by
 obtain ⟨ro,rn,rc,hcell,hrx⟩:=h.ex
 have hrd:=hrx.now
 have hrl:=hrd.len
 have H:=hid h
 have HFF:=hid HF
 have HNE:=hid hne
 clear HF hne hrx
 cases xs with
 | nil =>
   have hr2:Rdw K p w tail:=h;have HR:=hid hr2;simp only [qL,List.nil_append] at hrd hrl;rcases hnk with rfl | ⟨b,r,rfl,hb⟩
   ·simp at hrl
    subst hrl;clear h hr2 hrd H;go_enter Tryz.func113,Tryz.ntmps113;go_wp2_with fail;go_ret;exact ⟨_,rfl,OwnG.nil _ _ _ _ _,HR.out,qO _ _⟩
   ·have hp:0 < rn:=by rw [<- hrl];simp
    have hp':((rn:Int) == 0)=false:=by simp;omega
    have hbk:(b != kn)=true:=by simp [hb]
    obtain ⟨q,off,rfl,hc⟩:=hrd.at hp;have hc0:=hc 0 hp;simp only [qXx,qXd] at hc0;clear h hr2 hrd H hc hrl hb;go_enter Tryz.func113,Tryz.ntmps113;go_wp2_with fail;go_ret;exact ⟨_,rfl,OwnG.nil _ _ _ _ _,HR.out,qO _ _⟩
 | cons x l =>
   have es:qL kn f (x :: l)=kn :: szE (qT f (x :: l)):=rfl;rw [es,List.cons_append] at hrd hrl;have hr0:Rdw K p w (kn :: (szE (qT f (x :: l)) ++ tail)):=by have:=H.out;rw [es] at this;exact this
   have hp:0 < rn:=by rw [<- hrl];simp
   have hp':((rn:Int) == 0)=false:=by simp;omega
   obtain ⟨q,off,rfl,hc⟩:=hrd.at hp;have hc0:=hc 0 hp;simp only [qXx,qXd] at hc0;have hpass:=jL K p w _ 1 hr0 (by simp) 1 rfl;simp only [qXm,qXv] at hpass;have HPASS:=hid hpass;clear h hrd H hc hrl es hr0 hpass hnk;go_enter Tryz.func113,Tryz.ntmps113;go_wp2_with fail;refine HPASS.out.mono ?_;rintro e w1 ⟨rfl,hr1,hg1⟩;have hnum:=qI K p w1 ((qT f (x :: l)).length:Int) (qT f (x :: l) ++ tail) (by omega) (by omega) (by unfold szE at hr1;rw [qXe] at hr1;exact hr1);have HNUM:=hid hnum;have HG1:=hid hg1;have hs1:=hg1.size;clear hr1 hg1 hnum HPASS hc0 hcell;go_wp2_with fail;refine HNUM.out.mono ?_;rintro e w2 ⟨rfl,hr2,hg2⟩;have hvec:=qT5 g f K p (x :: l) tail w2 hr2 he hn HNE.out HFF.out;have HVEC:=hid hvec;have HG2:=hid (qF HG1.out hg2);have hs2:=HG2.out.size;clear hr2 hg2 hvec HNUM;go_wp2_with fail;refine HVEC.out.mono ?_;rintro e w3 ⟨v,rfl,ho,hr3,hg3⟩;have HO3:=hid (ho.lift hs2);have HR3:=hid hr3;have HG3:=hid (qF HG2.out hg3);clear ho hr3 hg3 HVEC;go_wp2_with fail;go_ret;exact ⟨_,rfl,HO3.out,HR3.out,HG3.out⟩
theorem qUi (kn:Int) (g:Nat) (f:MEx -> List Int) (K p:Nat) (xs:List (MEx)) (tail:List Int) (w:World) (h:Rdw K p w (qL kn f xs ++ tail)) (hnk:qAf kn tail) (he:∀ args w,(callFunc g args).run Tryz.prog w=.ok (.enter g args) w) (hn:xs.length <= 100000)
    (hsz:(qT f xs).length <= 100000) (hne:∀ x ∈ xs,0 < (f x).length)
    (HF:∀ w x t,x ∈ xs -> Rdw K p w (f x ++ t) -> Calls Tryz.prog g #[rp p] w (qT6 K p w x t)) :
    Calls Tryz.prog 115 #[rp p,.int .u8 kn,.func (.func g) #[] #[]] w fun e w'=>∃ v,e=.returned v /\ OwnG 60 2 (ExR) w.heap.size w' v xs /\ Rdw K p w' tail /\ w.grownBy w' (some p):=by
 obtain ⟨ro,rn,rc,hcell,hrx⟩:=h.ex
 have hrd:=hrx.now
 have hrl:=hrd.len
 have H:=hid h
 have HFF:=hid HF
 have HNE:=hid hne
 clear HF hne hrx
 cases xs with
 | nil =>
   have hr2:Rdw K p w tail:=h;have HR:=hid hr2;simp only [qL,List.nil_append] at hrd hrl;rcases hnk with rfl | ⟨b,r,rfl,hb⟩
   ·simp at hrl
    subst hrl;clear h hr2 hrd H;go_enter Tryz.func115,Tryz.ntmps115;go_wp2_with fail;go_ret;exact ⟨_,rfl,OwnG.nil _ _ _ _ _,HR.out,qO _ _⟩
   ·have hp:0 < rn:=by rw [<- hrl];simp
    have hp':((rn:Int) == 0)=false:=by simp;omega
    have hbk:(b != kn)=true:=by simp [hb]
    obtain ⟨q,off,rfl,hc⟩:=hrd.at hp;have hc0:=hc 0 hp;simp only [qXx,qXd] at hc0;clear h hr2 hrd H hc hrl hb;go_enter Tryz.func115,Tryz.ntmps115;go_wp2_with fail;go_ret;exact ⟨_,rfl,OwnG.nil _ _ _ _ _,HR.out,qO _ _⟩
 | cons x l =>
   have es:qL kn f (x :: l)=kn :: szE (qT f (x :: l)):=rfl;rw [es,List.cons_append] at hrd hrl;have hr0:Rdw K p w (kn :: (szE (qT f (x :: l)) ++ tail)):=by have:=H.out;rw [es] at this;exact this
   have hp:0 < rn:=by rw [<- hrl];simp
   have hp':((rn:Int) == 0)=false:=by simp;omega
   obtain ⟨q,off,rfl,hc⟩:=hrd.at hp;have hc0:=hc 0 hp;simp only [qXx,qXd] at hc0;have hpass:=jL K p w _ 1 hr0 (by simp) 1 rfl;simp only [qXm,qXv] at hpass;have HPASS:=hid hpass;clear h hrd H hc hrl es hr0 hpass hnk;go_enter Tryz.func115,Tryz.ntmps115;go_wp2_with fail;refine HPASS.out.mono ?_;rintro e w1 ⟨rfl,hr1,hg1⟩;have hnum:=qI K p w1 ((qT f (x :: l)).length:Int) (qT f (x :: l) ++ tail) (by omega) (by omega) (by unfold szE at hr1;rw [qXe] at hr1;exact hr1);have HNUM:=hid hnum;have HG1:=hid hg1;have hs1:=hg1.size;clear hr1 hg1 hnum HPASS hc0 hcell;go_wp2_with fail;refine HNUM.out.mono ?_;rintro e w2 ⟨rfl,hr2,hg2⟩;have hvec:=qT7 g f K p (x :: l) tail w2 hr2 he hn HNE.out HFF.out;have HVEC:=hid hvec;have HG2:=hid (qF HG1.out hg2);have hs2:=HG2.out.size;clear hr2 hg2 hvec HNUM;go_wp2_with fail;refine HVEC.out.mono ?_;rintro e w3 ⟨v,rfl,ho,hr3,hg3⟩;have HO3:=hid (ho.lift hs2);have HR3:=hid hr3;have HG3:=hid (qF HG2.out hg3);clear ho hr3 hg3 HVEC;go_wp2_with fail;go_ret;exact ⟨_,rfl,HO3.out,HR3.out,HG3.out⟩
theorem qUj (kn:Int) (g:Nat) (f:MEl -> List Int) (K p:Nat) (xs:List (MEl)) (tail:List Int) (w:World) (h:Rdw K p w (qL kn f xs ++ tail)) (hnk:qAf kn tail) (he:∀ args w,(callFunc g args).run Tryz.prog w=.ok (.enter g args) w) (hn:xs.length <= 100000)
    (hsz:(qT f xs).length <= 100000) (hne:∀ x ∈ xs,0 < (f x).length)
    (HF:∀ w x t,x ∈ xs -> Rdw K p w (f x ++ t) -> Calls Tryz.prog g #[rp p] w (qT8 K p w x t)) :
    Calls Tryz.prog 117 #[rp p,.int .u8 kn,.func (.func g) #[] #[]] w fun e w'=>∃ v,e=.returned v /\ OwnG 67 2 (ElR) w.heap.size w' v xs /\ Rdw K p w' tail /\ w.grownBy w' (some p):=by
 obtain ⟨ro,rn,rc,hcell,hrx⟩:=h.ex
 have hrd:=hrx.now
 have hrl:=hrd.len
 have H:=hid h
 have HFF:=hid HF
 have HNE:=hid hne
 clear HF hne hrx
 cases xs with
 | nil =>
   have hr2:Rdw K p w tail:=h;have HR:=hid hr2;simp only [qL,List.nil_append] at hrd hrl;rcases hnk with rfl | ⟨b,r,rfl,hb⟩
   ·simp at hrl
    subst hrl;clear h hr2 hrd H;go_enter Tryz.func117,Tryz.ntmps117;go_wp2_with fail;go_ret;exact ⟨_,rfl,OwnG.nil _ _ _ _ _,HR.out,qO _ _⟩
   ·have hp:0 < rn:=by rw [<- hrl];simp
    have hp':((rn:Int) == 0)=false:=by simp;omega
    have hbk:(b != kn)=true:=by simp [hb]
    obtain ⟨q,off,rfl,hc⟩:=hrd.at hp;have hc0:=hc 0 hp;simp only [qXx,qXd] at hc0;clear h hr2 hrd H hc hrl hb;go_enter Tryz.func117,Tryz.ntmps117;go_wp2_with fail;go_ret;exact ⟨_,rfl,OwnG.nil _ _ _ _ _,HR.out,qO _ _⟩
 | cons x l =>
   have es:qL kn f (x :: l)=kn :: szE (qT f (x :: l)):=rfl;rw [es,List.cons_append] at hrd hrl;have hr0:Rdw K p w (kn :: (szE (qT f (x :: l)) ++ tail)):=by have:=H.out;rw [es] at this;exact this
   have hp:0 < rn:=by rw [<- hrl];simp
   have hp':((rn:Int) == 0)=false:=by simp;omega
   obtain ⟨q,off,rfl,hc⟩:=hrd.at hp;have hc0:=hc 0 hp;simp only [qXx,qXd] at hc0;have hpass:=jL K p w _ 1 hr0 (by simp) 1 rfl;simp only [qXm,qXv] at hpass;have HPASS:=hid hpass;clear h hrd H hc hrl es hr0 hpass hnk;go_enter Tryz.func117,Tryz.ntmps117;go_wp2_with fail;refine HPASS.out.mono ?_;rintro e w1 ⟨rfl,hr1,hg1⟩;have hnum:=qI K p w1 ((qT f (x :: l)).length:Int) (qT f (x :: l) ++ tail) (by omega) (by omega) (by unfold szE at hr1;rw [qXe] at hr1;exact hr1);have HNUM:=hid hnum;have HG1:=hid hg1;have hs1:=hg1.size;clear hr1 hg1 hnum HPASS hc0 hcell;go_wp2_with fail;refine HNUM.out.mono ?_;rintro e w2 ⟨rfl,hr2,hg2⟩;have hvec:=qT9 g f K p (x :: l) tail w2 hr2 he hn HNE.out HFF.out;have HVEC:=hid hvec;have HG2:=hid (qF HG1.out hg2);have hs2:=HG2.out.size;clear hr2 hg2 hvec HNUM;go_wp2_with fail;refine HVEC.out.mono ?_;rintro e w3 ⟨v,rfl,ho,hr3,hg3⟩;have HO3:=hid (ho.lift hs2);have HR3:=hid hr3;have HG3:=hid (qF HG2.out hg3);clear ho hr3 hg3 HVEC;go_wp2_with fail;go_ret;exact ⟨_,rfl,HO3.out,HR3.out,HG3.out⟩
theorem qUk (kn:Int) (g:Nat) (f:MCo -> List Int) (K p:Nat) (xs:List (MCo)) (tail:List Int) (w:World) (h:Rdw K p w (qL kn f xs ++ tail)) (hnk:qAf kn tail) (he:∀ args w,(callFunc g args).run Tryz.prog w=.ok (.enter g args) w) (hn:xs.length <= 100000)
    (hsz:(qT f xs).length <= 100000) (hne:∀ x ∈ xs,0 < (f x).length)
    (HF:∀ w x t,x ∈ xs -> Rdw K p w (f x ++ t) -> Calls Tryz.prog g #[rp p] w (qUa K p w x t)) :
    Calls Tryz.prog 119 #[rp p,.int .u8 kn,.func (.func g) #[] #[]] w fun e w'=>∃ v,e=.returned v /\ OwnG 49 2 (CoR) w.heap.size w' v xs /\ Rdw K p w' tail /\ w.grownBy w' (some p):=by
 obtain ⟨ro,rn,rc,hcell,hrx⟩:=h.ex
 have hrd:=hrx.now
 have hrl:=hrd.len
 have H:=hid h
 have HFF:=hid HF
 have HNE:=hid hne
 clear HF hne hrx
 cases xs with
 | nil =>
   have hr2:Rdw K p w tail:=h;have HR:=hid hr2;simp only [qL,List.nil_append] at hrd hrl;rcases hnk with rfl | ⟨b,r,rfl,hb⟩
   ·simp at hrl
    subst hrl;clear h hr2 hrd H;go_enter Tryz.func119,Tryz.ntmps119;go_wp2_with fail;go_ret;exact ⟨_,rfl,OwnG.nil _ _ _ _ _,HR.out,qO _ _⟩
   ·have hp:0 < rn:=by rw [<- hrl];simp
    have hp':((rn:Int) == 0)=false:=by simp;omega
    have hbk:(b != kn)=true:=by simp [hb]
    obtain ⟨q,off,rfl,hc⟩:=hrd.at hp;have hc0:=hc 0 hp;simp only [qXx,qXd] at hc0;clear h hr2 hrd H hc hrl hb;go_enter Tryz.func119,Tryz.ntmps119;go_wp2_with fail;go_ret;exact ⟨_,rfl,OwnG.nil _ _ _ _ _,HR.out,qO _ _⟩
 | cons x l =>
   have es:qL kn f (x :: l)=kn :: szE (qT f (x :: l)):=rfl;rw [es,List.cons_append] at hrd hrl;have hr0:Rdw K p w (kn :: (szE (qT f (x :: l)) ++ tail)):=by have:=H.out;rw [es] at this;exact this
   have hp:0 < rn:=by rw [<- hrl];simp
   have hp':((rn:Int) == 0)=false:=by simp;omega
   obtain ⟨q,off,rfl,hc⟩:=hrd.at hp;have hc0:=hc 0 hp;simp only [qXx,qXd] at hc0;have hpass:=jL K p w _ 1 hr0 (by simp) 1 rfl;simp only [qXm,qXv] at hpass;have HPASS:=hid hpass;clear h hrd H hc hrl es hr0 hpass hnk;go_enter Tryz.func119,Tryz.ntmps119;go_wp2_with fail;refine HPASS.out.mono ?_;rintro e w1 ⟨rfl,hr1,hg1⟩;have hnum:=qI K p w1 ((qT f (x :: l)).length:Int) (qT f (x :: l) ++ tail) (by omega) (by omega) (by unfold szE at hr1;rw [qXe] at hr1;exact hr1);have HNUM:=hid hnum;have HG1:=hid hg1;have hs1:=hg1.size;clear hr1 hg1 hnum HPASS hc0 hcell;go_wp2_with fail;refine HNUM.out.mono ?_;rintro e w2 ⟨rfl,hr2,hg2⟩;have hvec:=qUb g f K p (x :: l) tail w2 hr2 he hn HNE.out HFF.out;have HVEC:=hid hvec;have HG2:=hid (qF HG1.out hg2);have hs2:=HG2.out.size;clear hr2 hg2 hvec HNUM;go_wp2_with fail;refine HVEC.out.mono ?_;rintro e w3 ⟨v,rfl,ho,hr3,hg3⟩;have HO3:=hid (ho.lift hs2);have HR3:=hid hr3;have HG3:=hid (qF HG2.out hg3);clear ho hr3 hg3 HVEC;go_wp2_with fail;go_ret;exact ⟨_,rfl,HO3.out,HR3.out,HG3.out⟩
theorem qUl (kn:Int) (g:Nat) (f:MDa -> List Int) (K p:Nat) (xs:List (MDa)) (tail:List Int) (w:World) (h:Rdw K p w (qL kn f xs ++ tail)) (hnk:qAf kn tail) (he:∀ args w,(callFunc g args).run Tryz.prog w=.ok (.enter g args) w) (hn:xs.length <= 100000)
    (hsz:(qT f xs).length <= 100000) (hne:∀ x ∈ xs,0 < (f x).length)
    (HF:∀ w x t,x ∈ xs -> Rdw K p w (f x ++ t) -> Calls Tryz.prog g #[rp p] w (qUc K p w x t)) :
    Calls Tryz.prog 121 #[rp p,.int .u8 kn,.func (.func g) #[] #[]] w fun e w'=>∃ v,e=.returned v /\ OwnG 44 2 (DaR) w.heap.size w' v xs /\ Rdw K p w' tail /\ w.grownBy w' (some p):=by
 obtain ⟨ro,rn,rc,hcell,hrx⟩:=h.ex
 have hrd:=hrx.now
 have hrl:=hrd.len
 have H:=hid h
 have HFF:=hid HF
 have HNE:=hid hne
 clear HF hne hrx
 cases xs with
 | nil =>
   have hr2:Rdw K p w tail:=h;have HR:=hid hr2;simp only [qL,List.nil_append] at hrd hrl;rcases hnk with rfl | ⟨b,r,rfl,hb⟩
   ·simp at hrl
    subst hrl;clear h hr2 hrd H;go_enter Tryz.func121,Tryz.ntmps121;go_wp2_with fail;go_ret;exact ⟨_,rfl,OwnG.nil _ _ _ _ _,HR.out,qO _ _⟩
   ·have hp:0 < rn:=by rw [<- hrl];simp
    have hp':((rn:Int) == 0)=false:=by simp;omega
    have hbk:(b != kn)=true:=by simp [hb]
    obtain ⟨q,off,rfl,hc⟩:=hrd.at hp;have hc0:=hc 0 hp;simp only [qXx,qXd] at hc0;clear h hr2 hrd H hc hrl hb;go_enter Tryz.func121,Tryz.ntmps121;go_wp2_with fail;go_ret;exact ⟨_,rfl,OwnG.nil _ _ _ _ _,HR.out,qO _ _⟩
 | cons x l =>
   have es:qL kn f (x :: l)=kn :: szE (qT f (x :: l)):=rfl;rw [es,List.cons_append] at hrd hrl;have hr0:Rdw K p w (kn :: (szE (qT f (x :: l)) ++ tail)):=by have:=H.out;rw [es] at this;exact this
   have hp:0 < rn:=by rw [<- hrl];simp
   have hp':((rn:Int) == 0)=false:=by simp;omega
   obtain ⟨q,off,rfl,hc⟩:=hrd.at hp;have hc0:=hc 0 hp;simp only [qXx,qXd] at hc0;have hpass:=jL K p w _ 1 hr0 (by simp) 1 rfl;simp only [qXm,qXv] at hpass;have HPASS:=hid hpass;clear h hrd H hc hrl es hr0 hpass hnk;go_enter Tryz.func121,Tryz.ntmps121;go_wp2_with fail;refine HPASS.out.mono ?_;rintro e w1 ⟨rfl,hr1,hg1⟩;have hnum:=qI K p w1 ((qT f (x :: l)).length:Int) (qT f (x :: l) ++ tail) (by omega) (by omega) (by unfold szE at hr1;rw [qXe] at hr1;exact hr1);have HNUM:=hid hnum;have HG1:=hid hg1;have hs1:=hg1.size;clear hr1 hg1 hnum HPASS hc0 hcell;go_wp2_with fail;refine HNUM.out.mono ?_;rintro e w2 ⟨rfl,hr2,hg2⟩;have hvec:=qUd g f K p (x :: l) tail w2 hr2 he hn HNE.out HFF.out;have HVEC:=hid hvec;have HG2:=hid (qF HG1.out hg2);have hs2:=HG2.out.size;clear hr2 hg2 hvec HNUM;go_wp2_with fail;refine HVEC.out.mono ?_;rintro e w3 ⟨v,rfl,ho,hr3,hg3⟩;have HO3:=hid (ho.lift hs2);have HR3:=hid hr3;have HG3:=hid (qF HG2.out hg3);clear ho hr3 hg3 HVEC;go_wp2_with fail;go_ret;exact ⟨_,rfl,HO3.out,HR3.out,HG3.out⟩
end Go.Proofs.YtbkofpljchkkaaaGreat
