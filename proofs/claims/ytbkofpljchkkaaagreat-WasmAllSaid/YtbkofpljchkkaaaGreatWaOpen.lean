/- Words: WaOpen. -/
import Derived.Deep.Slices
import Derived.Deep.Fields
import Derived.ChangeSame
import Derived.OpenShut
import Derived.Test.YtbkofpljchkkaaaGreatWA
set_option maxRecDepth 100000
namespace Go.Proofs.YtbkofpljchkkaaaGreat
open Go.RowKit Go.ChangeShapes Go.WideShapes Go.Deep
theorem qWo:Tryz.prog.cellsOf 30=1:=by kernel_rfl
theorem qWp:Tryz.prog.cellsOf 31=1:=by kernel_rfl
theorem qWq:Tryz.prog.cellsOf 29=1:=by kernel_rfl
theorem qWr:Tryz.prog.cellsOf 28=1:=by kernel_rfl
theorem qWs:Tryz.prog.cellsOf 27=1:=by kernel_rfl
theorem qWt:Tryz.prog.cellsOf 23=1:=by kernel_rfl
theorem qWu:Tryz.prog.cellsOf 47=1:=by kernel_rfl
theorem qWv:Tryz.prog.cellsOf 22=1:=by kernel_rfl
theorem qUn:Tryz.prog.cellsOf 24=1:=by kernel_rfl
theorem qWw:Tryz.prog.cellsOf 37=1:=by kernel_rfl
theorem qUt:Tryz.prog.cellsOf 49=2:=by kernel_rfl
theorem qUu:Tryz.prog.cellsOf 44=2:=by kernel_rfl
theorem qUv:Tryz.prog.cellsOf 67=2:=by kernel_rfl
theorem qUw:Tryz.prog.cellsOf 60=2:=by kernel_rfl
theorem qUx:Tryz.prog.cellsOf 58=3:=by kernel_rfl
theorem qUy:Tryz.prog.cellsOf 62=3:=by kernel_rfl
theorem qUz:Tryz.prog.cellsOf 51=4:=by kernel_rfl
theorem qSg:Tryz.prog.cellsOf 26=3:=by kernel_rfl
theorem qVx:Tryz.prog.cellsOf 33=14:=by kernel_rfl
theorem qU0:Tryz.prog.cellsOf 53=2:=by kernel_rfl
theorem qU1:Tryz.prog.cellsOf 56=2:=by kernel_rfl
theorem qU2:Tryz.prog.cellsOf 4=1:=by kernel_rfl
theorem qSh:Tryz.prog.cellsOf 2=1:=by kernel_rfl
theorem qF1:Tryz.prog.cellsOf 3=1:=by kernel_rfl
theorem qSi:Tryz.prog.cellsOf 9=1:=by kernel_rfl
theorem RdG.rx_of {α:Type} {s:Nat} {R:World -> List Value -> α -> Prop} {w:World} {ao:Option Addr} {n cap:Nat} {xs:List α} (h:RdG s (fun w cs x=>Rx w fun w=>R w cs x) w ao n cap xs):Rx w fun w=>RdG s R w ao n cap xs:=fun w' h' =>
 ⟨h.len,h.le,h.max,h.nil,fun i x hi=>by
  obtain ⟨b,off,cs,e,hl,hR,hc⟩:=h.cell i x hi
  exact ⟨b,off,cs,e,hl,hR w' h',fun j v hj=>(World.cell?_of_block (h' _ (qXc w _ (hc j v hj)))).trans (hc j v hj)⟩⟩
section
variable {H:Type} {enc:TypeId × Value -> H} {w:World} {base:Nat} {spare:Nat -> Bool} {held:Bool}
theorem yJ {P:Program} {α:Type} [Inhabited α] {t e:TypeId} {s:Nat} {R:World -> List Value -> α -> Prop} (ht:P.underlying t=some (.slice e)) (hs:P.cellsOf e=s) (hs0:0 < s)
    (hE:∀ n cs y,DataW.trod enc P w base spare held n e cs=some y -> ∃ x,cs.length=s /\ R w cs x)
    {fuel:Nat} {cs:List Value} {x:DataW H × List MemPlace} (h:DataW.trod enc P w base spare held fuel t cs=some x) :
    ∃ ao n cap xs,cs=[.slice ao n cap] /\ RdG s R w ao n cap xs:=by
 rcases open_slice ht h with ⟨rfl,_⟩ | ⟨a,len,cap,m,n,D,Pl,rfl,_,hl,hm,hmm,_,hi⟩
 ·exact ⟨none,0,0,[],rfl,RdG.empty w⟩
 ·have hlm:len <= m:=by rw [hmm];split <;> omega
  have key:∀ i:Nat,∃ p:List Value × α,i < len -> p.1.length=s /\ R w p.1 p.2 /\ ∀ j v,p.1[j]?=some v -> w.cell? ((a.add (i * s)).add j)=some v:=by
   intro i;by_cases hil:i < len
   ·obtain ⟨cs',hc,ht⟩:=hi i (by omega)
    rw [hs] at hc;obtain ⟨x,hx1,hx2⟩:=hE _ _ _ ht;refine ⟨(cs',x),fun _=>⟨hx1,hx2,fun j v hj=>?_⟩⟩;obtain ⟨_,_,hcell⟩:=World.cells?_some hc;rw [hcell j (by have:=(qXt.1 hj).1;simp only at this;omega),hj]
   ·exact ⟨default,fun h=>absurd h hil⟩
  obtain ⟨f,hf⟩:=Classical.axiomOfChoice key;refine ⟨some a,len,cap,(List.range len).map fun i=>(f i).2,rfl,by simp,hl,hm,(fun e=>by cases e),fun i x hi=>?_⟩;have hil:i < len:=by have:=(qXt.1 hi).1;simpa using this
  have hx:x=(f i).2:=by simp [hil] at hi;exact hi.symm
  subst hx;obtain ⟨h1,h2,h3⟩:=hf i hil
  have hspot:a.spot=none:=by
   obtain ⟨g1,_,g3⟩:=hf 0 (by omega);have:=g3 0 _ (qW6 (by omega));simpa [Addr.add] using World.cell?_spot this
  obtain ⟨b,off,spot⟩:=a;simp only at hspot;subst hspot;refine ⟨b,off,(f i).1,rfl,h1,h2,fun j v hj=>?_⟩;have:=h3 j v hj;simp only [Addr.add_lit] at this;exact this
theorem qO3 {fuel:Nat} {cs:List Value} {x:DataW H × List MemPlace} (h:DataW.trod enc Tryz.prog w base spare held fuel 37 cs=some x):∃ lo ln lc l,cs=[.slice lo ln lc] /\ Rd .u8 w lo ln lc l:=by
 rcases open_ints Tryz.underlying37 Tryz.underlying5 (by kernel_rfl) h with ⟨rfl,_⟩ | ⟨a,len,cap,zs,rfl,_,hl,hm,hz,_,hcell,hwz⟩
 ·exact ⟨none,0,0,[],rfl,Rd.empty _ _⟩
 ·have hle:len <= zs.length:=by rw [hz];split <;> omega
  refine ⟨some a,len,cap,zs.take len,rfl,by simp;omega,hl,hm,(fun h=>by cases h),(fun ad ha i hi=>?_),fun x hx=>hwz x (qXs hx)⟩
  cases ha
  rw [hcell i (by omega)];simp [List.getD,hi]
theorem yT {fuel:Nat} {cs:List Value} {x:DataW H × List MemPlace} (h:DataW.trod enc Tryz.prog w base spare held fuel 24 cs=some x):∃ lo ln lc l,cs=[.slice lo ln lc] /\ Rd .i64 w lo ln lc l:=by
 rcases open_ints Tryz.underlying24 Tryz.underlying3 (by kernel_rfl) h with ⟨rfl,_⟩ | ⟨a,len,cap,zs,rfl,_,hl,hm,hz,_,hcell,hwz⟩
 ·exact ⟨none,0,0,[],rfl,Rd.empty _ _⟩
 ·have hle:len <= zs.length:=by rw [hz];split <;> omega
  refine ⟨some a,len,cap,zs.take len,rfl,by simp;omega,hl,hm,(fun h=>by cases h),(fun ad ha i hi=>?_),fun x hx=>hwz x (qXs hx)⟩
  cases ha
  rw [hcell i (by omega)];simp [List.getD,hi]
theorem jV {P:Program} {t:TypeId} {fs:Array Field} {n:Nat} {cs:List Value} {y:DataW H × List MemPlace} (hs:P.underlying t=some (.struct fs)) (h:DataW.trod enc P w base spare held n t cs=some y) :
    cs.length=P.cellsOf t /\ ∃ m,∀ (i:Nat) (T:TypeId) (o:Nat),(fs[i]?).map (fun f=>(f.type,f.offset))=some (T,o) -> ∃ z,DataW.trod enc P w base spare held m T ((cs.drop o).take (P.cellsOf T))=some z:=by
 obtain ⟨ys,m,_,_,hl,hyl,hf⟩:=DataW.trod_struct hs h
 refine ⟨hl,m,fun i T o hi=>?_⟩
 obtain ⟨f,hif,e⟩:=Option.map_eq_some_iff.1 hi
 cases e
 have hlt:i < ys.length:=by rw [hyl];exact (qXw.1 hif).1
 exact ⟨ys[i],by rw [hf i f hif,qW6 hlt]⟩
theorem qSj {n:Nat} {cs:List Value} {y:DataW H × List MemPlace} (h:DataW.trod enc Tryz.prog w base spare held n 53 cs=some y):∃ x:MTy,cs.length=2 /\ Rx w fun w=>TyR w cs x:=by
 obtain ⟨hl,m,hf⟩:=jV Tryz.underlying53 h;replace hl:=hl.trans qU0;obtain ⟨_,h0⟩:=hf 0 24 0 rfl;obtain ⟨_,h1⟩:=hf 1 24 1 rfl
 match cs,hl with
 | [v0,v1],_ =>
   clear h hf;rw [qUn] at h0;simp only [List.drop,List.take] at h0;obtain ⟨a0,n0,k0,l0,e0,r0⟩:=yT h0;rw [qUn] at h1;simp only [List.drop,List.take] at h1;obtain ⟨a1,n1,k1,l1,e1,r1⟩:=yT h1;simp only [List.cons.injEq,and_true] at e0 e1;subst e0;subst e1;exact ⟨⟨l0,l1⟩,rfl,fun w' h'=>⟨_,_,_,_,_,_,rfl,Rd.rx r0 w' h',Rd.rx r1 w' h'⟩⟩
theorem qSk {n:Nat} {cs:List Value} {y:DataW H × List MemPlace} (h:DataW.trod enc Tryz.prog w base spare held n 62 cs=some y):∃ x:MIm,cs.length=3 /\ Rx w fun w=>ImR w cs x:=by
 obtain ⟨hl,m,hf⟩:=jV Tryz.underlying62 h;replace hl:=hl.trans qUy;obtain ⟨_,h0⟩:=hf 0 9 0 rfl;obtain ⟨_,h1⟩:=hf 1 9 1 rfl;obtain ⟨_,h2⟩:=hf 2 3 2 rfl
 match cs,hl with
 | [v0,v1,v2],_ =>
   clear h hf;rw [qSi] at h0;simp only [List.drop,List.take] at h0;obtain ⟨x0,e0,_,s0⟩:=DataW.trod_string Tryz.underlying9 h0;rw [qSi] at h1;simp only [List.drop,List.take] at h1;obtain ⟨x1,e1,_,s1⟩:=DataW.trod_string Tryz.underlying9 h1;rw [qF1] at h2;simp only [List.drop,List.take] at h2;obtain ⟨x2,e2,_,w2⟩:=DataW.trod_int Tryz.underlying3 h2;simp only [List.cons.injEq,and_true] at e0 e1 e2;subst e0;subst e1;subst e2;exact ⟨⟨x0,x1,x2⟩,rfl,fun _ _=>rfl⟩
theorem qMi {n:Nat} {cs:List Value} {y:DataW H × List MemPlace} (h:DataW.trod enc Tryz.prog w base spare held n 26 cs=some y):∃ x:MLi,cs.length=3 /\ Rx w fun w=>LiR w cs x:=by
 obtain ⟨hl,m,hf⟩:=jV Tryz.underlying26 h;replace hl:=hl.trans qSg;obtain ⟨_,h0⟩:=hf 0 4 0 rfl;obtain ⟨_,h1⟩:=hf 1 3 1 rfl;obtain ⟨_,h2⟩:=hf 2 3 2 rfl
 match cs,hl with
 | [v0,v1,v2],_ =>
   clear h hf;rw [qU2] at h0;simp only [List.drop,List.take] at h0;obtain ⟨x0,e0,_⟩:=DataW.trod_bool Tryz.underlying4 h0;rw [qF1] at h1;simp only [List.drop,List.take] at h1;obtain ⟨x1,e1,_,w1⟩:=DataW.trod_int Tryz.underlying3 h1;rw [qF1] at h2;simp only [List.drop,List.take] at h2;obtain ⟨x2,e2,_,w2⟩:=DataW.trod_int Tryz.underlying3 h2;simp only [List.cons.injEq,and_true] at e0 e1 e2;subst e0;subst e1;subst e2;exact ⟨⟨x0,x1,x2⟩,rfl,fun _ _=>rfl⟩
theorem qO4 {n:Nat} {cs:List Value} {y:DataW H × List MemPlace} (h:DataW.trod enc Tryz.prog w base spare held n 56 cs=some y):∃ x:Int × Int,cs=[.int .i64 x.1,.int .i64 x.2] /\ (Lit.int .i64 x.2).wf=true:=by
 obtain ⟨hl,m,hf⟩:=jV Tryz.underlying56 h;replace hl:=hl.trans qU1;obtain ⟨_,h0⟩:=hf 0 3 0 rfl;obtain ⟨_,h1⟩:=hf 1 2 1 rfl
 match cs,hl with
 | [v0,v1],_ =>
   clear h hf;rw [qF1] at h0;rw [qSh] at h1;simp only [List.drop,List.take] at h0 h1;obtain ⟨x0,e0,_,_⟩:=DataW.trod_int Tryz.underlying3 h0;obtain ⟨x1,e1,_,w1⟩:=DataW.trod_int Tryz.underlying2 h1;simp only [List.cons.injEq,and_true] at e0 e1;subst e0 e1;exact ⟨(x0,x1),rfl,w1⟩
theorem qSl {n:Nat} {cs:List Value} {y:DataW H × List MemPlace} (h:DataW.trod enc Tryz.prog w base spare held n 58 cs=some y):∃ x:MGl,cs.length=3 /\ Rx w fun w=>GlR w cs x:=by
 obtain ⟨hl,m,hf⟩:=jV Tryz.underlying58 h;replace hl:=hl.trans qUx;obtain ⟨_,h0⟩:=hf 0 4 0 rfl;obtain ⟨_,h1⟩:=hf 1 56 1 rfl
 match cs,hl with
 | [v0,v1,v2],_ =>
   clear h hf;rw [qU2] at h0;simp only [List.drop,List.take] at h0;obtain ⟨x0,e0,_⟩:=DataW.trod_bool Tryz.underlying4 h0;rw [qU1] at h1;simp only [List.drop,List.take] at h1;obtain ⟨⟨x1,y1⟩,e1,w1⟩:=qO4 h1;simp only [List.cons.injEq,and_true] at e0 e1;subst e0;obtain ⟨e1,e1'⟩:=e1;subst e1 e1';exact ⟨⟨x0,x1,y1⟩,rfl,fun _ _=>⟨rfl,(bounds_i64 w1).1,(bounds_i64 w1).2⟩⟩
theorem qSm {n:Nat} {cs:List Value} {y:DataW H × List MemPlace} (h:DataW.trod enc Tryz.prog w base spare held n 60 cs=some y):∃ x:MEx,cs.length=2 /\ Rx w fun w=>ExR w cs x:=by
 obtain ⟨hl,m,hf⟩:=jV Tryz.underlying60 h;replace hl:=hl.trans qUw;obtain ⟨_,h0⟩:=hf 0 9 0 rfl;obtain ⟨_,h1⟩:=hf 1 3 1 rfl
 match cs,hl with
 | [v0,v1],_ =>
   clear h hf;rw [qSi] at h0;simp only [List.drop,List.take] at h0;obtain ⟨x0,e0,_,s0⟩:=DataW.trod_string Tryz.underlying9 h0;rw [qF1] at h1;simp only [List.drop,List.take] at h1;obtain ⟨x1,e1,_,w1⟩:=DataW.trod_int Tryz.underlying3 h1;simp only [List.cons.injEq,and_true] at e0 e1;subst e0;subst e1;exact ⟨⟨x0,x1⟩,rfl,fun _ _=>rfl⟩
theorem qSn {n:Nat} {cs:List Value} {y:DataW H × List MemPlace} (h:DataW.trod enc Tryz.prog w base spare held n 67 cs=some y):∃ x:MEl,cs.length=2 /\ Rx w fun w=>ElR w cs x:=by
 obtain ⟨hl,m,hf⟩:=jV Tryz.underlying67 h;replace hl:=hl.trans qUv;obtain ⟨_,h0⟩:=hf 0 3 0 rfl;obtain ⟨_,h1⟩:=hf 1 24 1 rfl
 match cs,hl with
 | [v0,v1],_ =>
   clear h hf;rw [qF1] at h0;simp only [List.drop,List.take] at h0;obtain ⟨x0,e0,_,w0⟩:=DataW.trod_int Tryz.underlying3 h0;rw [qUn] at h1;simp only [List.drop,List.take] at h1;obtain ⟨a1,n1,k1,l1,e1,r1⟩:=yT h1;simp only [List.cons.injEq,and_true] at e0 e1;subst e0;subst e1;exact ⟨⟨x0,l1⟩,rfl,fun w' h'=>⟨_,_,_,rfl,Rd.rx r1 w' h'⟩⟩
theorem qSo {n:Nat} {cs:List Value} {y:DataW H × List MemPlace} (h:DataW.trod enc Tryz.prog w base spare held n 44 cs=some y):∃ x:MDa,cs.length=2 /\ Rx w fun w=>DaR w cs x:=by
 obtain ⟨hl,m,hf⟩:=jV Tryz.underlying44 h;replace hl:=hl.trans qUu;obtain ⟨_,h0⟩:=hf 0 3 0 rfl;obtain ⟨_,h1⟩:=hf 1 37 1 rfl
 match cs,hl with
 | [v0,v1],_ =>
   clear h hf;rw [qF1] at h0;simp only [List.drop,List.take] at h0;obtain ⟨x0,e0,_,w0⟩:=DataW.trod_int Tryz.underlying3 h0;rw [qWw] at h1;simp only [List.drop,List.take] at h1;obtain ⟨a1,n1,k1,l1,e1,r1⟩:=qO3 h1;simp only [List.cons.injEq,and_true] at e0 e1;subst e0;subst e1;exact ⟨⟨x0,l1⟩,rfl,fun w' h'=>⟨_,_,_,rfl,Rd.rx r1 w' h'⟩⟩
theorem qSp {n:Nat} {cs:List Value} {y:DataW H × List MemPlace} (h:DataW.trod enc Tryz.prog w base spare held n 51 cs=some y):∃ x:Ins,cs.length=4 /\ Rx w fun w=>InR w cs x:=by
 obtain ⟨hl,m,hf⟩:=jV Tryz.underlying51 h;replace hl:=hl.trans qUz;obtain ⟨_,h0⟩:=hf 0 3 0 rfl;obtain ⟨_,h1⟩:=hf 1 2 1 rfl;obtain ⟨_,h2⟩:=hf 2 2 2 rfl;obtain ⟨_,h3⟩:=hf 3 24 3 rfl
 match cs,hl with
 | [v0,v1,v2,v3],_ =>
   clear h hf;rw [qF1] at h0;simp only [List.drop,List.take] at h0;obtain ⟨x0,e0,_,w0⟩:=DataW.trod_int Tryz.underlying3 h0;rw [qSh] at h1;simp only [List.drop,List.take] at h1;obtain ⟨x1,e1,_,w1⟩:=DataW.trod_int Tryz.underlying2 h1;rw [qSh] at h2;simp only [List.drop,List.take] at h2;obtain ⟨x2,e2,_,w2⟩:=DataW.trod_int Tryz.underlying2 h2;rw [qUn] at h3;simp only [List.drop,List.take] at h3;obtain ⟨a3,n3,k3,l3,e3,r3⟩:=yT h3;simp only [List.cons.injEq,and_true] at e0 e1 e2 e3;subst e0;subst e1;subst e2;subst e3;exact ⟨⟨x0,x1,x2,l3⟩,rfl,fun w' h'=>⟨_,_,_,rfl,Rd.rx r3 w' h',bounds_i64 w1⟩⟩
theorem qMj {fuel:Nat} {cs:List Value} {x:DataW H × List MemPlace} (h:DataW.trod enc Tryz.prog w base spare held fuel 47 cs=some x) :
    ∃ ao n cap is,cs=[.slice ao n cap] /\ Rx w fun w=>RdG 4 InR w ao n cap is:=by
 haveI:Inhabited Ins:=⟨⟨0,0,0,[]⟩⟩
 obtain ⟨ao,n,cap,is,e,hr⟩:=yJ Tryz.underlying47 qUz (by decide) (R:=fun w cs x=>Rx w fun w=>InR w cs x) (fun n cs y h=>qSp h) h
 exact ⟨ao,n,cap,is,e,RdG.rx_of hr⟩
theorem qSq {n:Nat} {cs:List Value} {y:DataW H × List MemPlace} (h:DataW.trod enc Tryz.prog w base spare held n 49 cs=some y):∃ x:MCo,cs.length=2 /\ Rx w fun w=>CoR w cs x:=by
 obtain ⟨hl,m,hf⟩:=jV Tryz.underlying49 h;replace hl:=hl.trans qUt;obtain ⟨_,h0⟩:=hf 0 24 0 rfl;obtain ⟨_,h1⟩:=hf 1 47 1 rfl
 match cs,hl with
 | [v0,v1],_ =>
   clear h hf;rw [qUn] at h0;simp only [List.drop,List.take] at h0;obtain ⟨a0,n0,k0,l0,e0,r0⟩:=yT h0;rw [qWu] at h1;simp only [List.drop,List.take] at h1;obtain ⟨a1,n1,k1,l1,e1,r1⟩:=qMj h1;simp only [List.cons.injEq,and_true] at e0 e1;subst e0;subst e1;exact ⟨⟨l0,l1⟩,rfl,fun w' h'=>⟨_,_,_,_,_,_,rfl,Rd.rx r0 w' h',r1 w' h'⟩⟩
theorem qO5 {fuel:Nat} {cs:List Value} {x:DataW H × List MemPlace} (h:DataW.trod enc Tryz.prog w base spare held fuel 22 cs=some x) :
    ∃ ao n cap is,cs=[.slice ao n cap] /\ Rx w fun w=>RdG 2 TyR w ao n cap is:=by
 haveI:Inhabited MTy:=⟨⟨[],[]⟩⟩
 obtain ⟨ao,n,cap,is,e,hr⟩:=yJ Tryz.underlying22 qU0 (by decide) (R:=fun w cs x=>Rx w fun w=>TyR w cs x) (fun n cs y h=>qSj h) h
 exact ⟨ao,n,cap,is,e,RdG.rx_of hr⟩
theorem qO6 {fuel:Nat} {cs:List Value} {x:DataW H × List MemPlace} (h:DataW.trod enc Tryz.prog w base spare held fuel 23 cs=some x) :
    ∃ ao n cap is,cs=[.slice ao n cap] /\ Rx w fun w=>RdG 3 ImR w ao n cap is:=by
 haveI:Inhabited MIm:=⟨⟨ByteArray.empty,ByteArray.empty,0⟩⟩
 obtain ⟨ao,n,cap,is,e,hr⟩:=yJ Tryz.underlying23 qUy (by decide) (R:=fun w cs x=>Rx w fun w=>ImR w cs x) (fun n cs y h=>qSk h) h
 exact ⟨ao,n,cap,is,e,RdG.rx_of hr⟩
theorem qO7 {fuel:Nat} {cs:List Value} {x:DataW H × List MemPlace} (h:DataW.trod enc Tryz.prog w base spare held fuel 27 cs=some x) :
    ∃ ao n cap is,cs=[.slice ao n cap] /\ Rx w fun w=>RdG 3 GlR w ao n cap is:=by
 haveI:Inhabited MGl:=⟨⟨false,0,0⟩⟩
 obtain ⟨ao,n,cap,is,e,hr⟩:=yJ Tryz.underlying27 qUx (by decide) (R:=fun w cs x=>Rx w fun w=>GlR w cs x) (fun n cs y h=>qSl h) h
 exact ⟨ao,n,cap,is,e,RdG.rx_of hr⟩
theorem qO8 {fuel:Nat} {cs:List Value} {x:DataW H × List MemPlace} (h:DataW.trod enc Tryz.prog w base spare held fuel 28 cs=some x) :
    ∃ ao n cap is,cs=[.slice ao n cap] /\ Rx w fun w=>RdG 2 ExR w ao n cap is:=by
 haveI:Inhabited MEx:=⟨⟨ByteArray.empty,0⟩⟩
 obtain ⟨ao,n,cap,is,e,hr⟩:=yJ Tryz.underlying28 qUw (by decide) (R:=fun w cs x=>Rx w fun w=>ExR w cs x) (fun n cs y h=>qSm h) h
 exact ⟨ao,n,cap,is,e,RdG.rx_of hr⟩
theorem qO9 {fuel:Nat} {cs:List Value} {x:DataW H × List MemPlace} (h:DataW.trod enc Tryz.prog w base spare held fuel 29 cs=some x) :
    ∃ ao n cap is,cs=[.slice ao n cap] /\ Rx w fun w=>RdG 2 ElR w ao n cap is:=by
 haveI:Inhabited MEl:=⟨⟨0,[]⟩⟩
 obtain ⟨ao,n,cap,is,e,hr⟩:=yJ Tryz.underlying29 qUv (by decide) (R:=fun w cs x=>Rx w fun w=>ElR w cs x) (fun n cs y h=>qSn h) h
 exact ⟨ao,n,cap,is,e,RdG.rx_of hr⟩
theorem qPa {fuel:Nat} {cs:List Value} {x:DataW H × List MemPlace} (h:DataW.trod enc Tryz.prog w base spare held fuel 30 cs=some x) :
    ∃ ao n cap is,cs=[.slice ao n cap] /\ Rx w fun w=>RdG 2 CoR w ao n cap is:=by
 haveI:Inhabited MCo:=⟨⟨[],[]⟩⟩
 obtain ⟨ao,n,cap,is,e,hr⟩:=yJ Tryz.underlying30 qUt (by decide) (R:=fun w cs x=>Rx w fun w=>CoR w cs x) (fun n cs y h=>qSq h) h
 exact ⟨ao,n,cap,is,e,RdG.rx_of hr⟩
theorem qPb {fuel:Nat} {cs:List Value} {x:DataW H × List MemPlace} (h:DataW.trod enc Tryz.prog w base spare held fuel 31 cs=some x) :
    ∃ ao n cap is,cs=[.slice ao n cap] /\ Rx w fun w=>RdG 2 DaR w ao n cap is:=by
 haveI:Inhabited MDa:=⟨⟨0,[]⟩⟩
 obtain ⟨ao,n,cap,is,e,hr⟩:=yJ Tryz.underlying31 qUu (by decide) (R:=fun w cs x=>Rx w fun w=>DaR w cs x) (fun n cs y h=>qSo h) h
 exact ⟨ao,n,cap,is,e,RdG.rx_of hr⟩
theorem open_mod {fuel:Nat} {cs:List Value} {x:DataW H × List MemPlace} (h:DataW.trod enc Tryz.prog w base spare held fuel 33 cs=some x):∃ V M,cs=V.cells M /\ Rx w (MoR V M):=by
 obtain ⟨hl,m,hf⟩:=jV Tryz.underlying33 h;replace hl:=hl.trans qVx;obtain ⟨_,h0⟩:=hf 0 22 0 rfl;obtain ⟨_,h1⟩:=hf 1 23 1 rfl;obtain ⟨_,h2⟩:=hf 2 24 2 rfl;obtain ⟨_,h3⟩:=hf 3 26 3 rfl;obtain ⟨_,h4⟩:=hf 4 26 6 rfl;obtain ⟨_,h5⟩:=hf 5 27 9 rfl;obtain ⟨_,h6⟩:=hf 6 28 10 rfl;obtain ⟨_,h7⟩:=hf 7 29 11 rfl;obtain ⟨_,h8⟩:=hf 8 30 12 rfl;obtain ⟨_,h9⟩:=hf 9 31 13 rfl
 match cs,hl with
 | [v0,v1,v2,v3,v4,v5,v6,v7,v8,v9,v10,v11,v12,v13],_ =>
   clear h hf;rw [qWv] at h0;simp only [List.drop,List.take] at h0;obtain ⟨a0,n0,k0,l0,e0,r0⟩:=qO5 h0;rw [qWt] at h1;simp only [List.drop,List.take] at h1;obtain ⟨a1,n1,k1,l1,e1,r1⟩:=qO6 h1;rw [qUn] at h2;simp only [List.drop,List.take] at h2;obtain ⟨a2,n2,k2,l2,e2,r2⟩:=yT h2;rw [qSg] at h3;simp only [List.drop,List.take] at h3;obtain ⟨⟨x3,y3,z3⟩,_,r3⟩:=qMi h3;have e3:=r3.now;rw [qSg] at h4;simp only [List.drop,List.take] at h4;obtain ⟨⟨x4,y4,z4⟩,_,r4⟩:=qMi h4;have e4:=r4.now;rw [qWs] at h5;simp only [List.drop,List.take] at h5;obtain ⟨a5,n5,k5,l5,e5,r5⟩:=qO7 h5;rw [qWr] at h6;simp only [List.drop,List.take] at h6;obtain ⟨a6,n6,k6,l6,e6,r6⟩:=qO8 h6;rw [qWq] at h7;simp only [List.drop,List.take] at h7;obtain ⟨a7,n7,k7,l7,e7,r7⟩:=qO9 h7;rw [qWo] at h8;simp only [List.drop,List.take] at h8;obtain ⟨a8,n8,k8,l8,e8,r8⟩:=qPa h8;rw [qWp] at h9;simp only [List.drop,List.take] at h9;obtain ⟨a9,n9,k9,l9,e9,r9⟩:=qPb h9;unfold LiR at e3 e4;simp only [List.cons.injEq,and_true] at e0 e1 e2 e3 e4 e5 e6 e7 e8 e9;obtain ⟨e3,e3',e3''⟩:=e3;obtain ⟨e4,e4',e4''⟩:=e4;subst e0 e1 e2 e3 e3' e3'' e4 e4' e4'' e5 e6 e7 e8 e9
   exact ⟨⟨⟨a0,n0,k0⟩,⟨a1,n1,k1⟩,⟨a2,n2,k2⟩,⟨a5,n5,k5⟩,⟨a6,n6,k6⟩,⟨a7,n7,k7⟩,⟨a8,n8,k8⟩,⟨a9,n9,k9⟩⟩,⟨l0,l1,l2,⟨x3,y3,z3⟩,⟨x4,y4,z4⟩,l5,l6,l7,l8,l9⟩,rfl,
    fun w' h'=>⟨r0 w' h',r1 w' h',Rd.rx r2 w' h',r5 w' h',r6 w' h',r7 w' h',r8 w' h',r9 w' h'⟩⟩
end
end Go.Proofs.YtbkofpljchkkaaaGreat
