/- Words: KE. -/
import Derived.Deep.RegionLaw
import Derived.BigRegion
import Derived.Deep.Cut
import Derived.Test.YtbkofpljchkkaaaGreatKA
import Derived.Test.YtbkofpljchkkaaaGreatKD
import Derived.Test.YtbkofpljchkkaaaGreatKC
set_option maxHeartbeats 2000000
namespace Go.Proofs.YtbkofpljchkkaaaGreat
structure Bk where
 at':Int
 els:Int
 en:Int
deriving Inhabited
structure Ns where
 bl:List Bk
 op:List (Nat × Bool)
def xN (x:Int):Bool:=x == 2 || (x == 3 || x == 4)
def qAx (s:Ns) (k:Nat) (i:Int):List Bk:=s.bl.set k ⟨(s.bl.getD k default).at',i,(s.bl.getD k default).en⟩
def qAy (s:Ns) (k:Nat) (i:Int):List Bk:=s.bl.set k ⟨(s.bl.getD k default).at',(s.bl.getD k default).els,i⟩
def jR (i:Nat) (x:Int) (s:Ns):Option Ns :=
 if xN x=true then (if s.op.length=40 then none else some ⟨s.bl ++ [⟨i,-1,-1⟩],(s.bl.length,x == 4) :: s.op⟩)
 else if x=5 then (match s.op with | (k,true) :: r=>some ⟨qAx s k i,(k,false) :: r⟩ | _=>none)
 else if x=11 then (match s.op with | (k,_) :: r=>some ⟨qAy s k i,r⟩ | []=>none)
 else some s
def qCf:Nat -> List Int -> Ns -> Option Ns
 | _,[],s=>some s
 | i,x :: r,s=>(jR i x s).bind (qCf (i + 1) r)
def j8:Ns:=⟨[],[]⟩
def qC0 (xs:List Int):Option (List Bk) :=
 if 300 < xs.length then none else match qCf 0 xs j8 with | some ⟨bl,[]⟩=>some bl | _=>none
theorem qAi:∀ (xs ys:List Int) (i:Nat) (s:Ns),qCf i (xs ++ ys) s=(qCf i xs s).bind (qCf (i + xs.length) ys)
 | [],ys,i,s=>rfl
 | x :: r,ys,i,s=>by
   simp only [List.cons_append,qCf,qXg]
   cases jR i x s with
   | none=>rfl
   | some s' =>
     simp only [Option.bind_some];rw [qAi r ys (i + 1) s'];congr 2;omega
theorem qGa (xs:List Int) (x:Int) (i:Nat) (s:Ns):qCf i (xs ++ [x]) s=(qCf i xs s).bind (jR (i + xs.length) x):=by
 rw [qAi];congr 1;funext s'
 simp only [qCf]
 cases jR (i + xs.length) x s' <;> rfl
theorem qGb {xs:List Int} {k:Nat} (h:qCf 0 (xs.take k) j8=none):qCf 0 xs j8=none:=by
 rw [<- List.take_append_drop k xs,qAi,h];rfl
structure NsInv (xs:List Int) (s:Ns):Prop where
 lo:∀ k,k < s.bl.length -> 0 <= (s.bl.getD k default).at' /\ (s.bl.getD k default).at' < xs.length
 inc:∀ k k',k < k' -> k' < s.bl.length -> (s.bl.getD k default).at' < (s.bl.getD k' default).at'
 opn:∀ p ∈ s.op,p.1 < s.bl.length /\ (s.bl.getD p.1 default).en=-1 /\ (p.2=true ↔ (xs.getD (s.bl.getD p.1 default).at'.toNat 0=4 /\ (s.bl.getD p.1 default).els=-1))
 dec:s.op.Pairwise fun p q=>q.1 < p.1
 cls:∀ k,k < s.bl.length -> (∃ f,(k,f) ∈ s.op) ∨ ((s.bl.getD k default).at' < (s.bl.getD k default).en /\ (s.bl.getD k default).en < xs.length)
 els:∀ k,k < s.bl.length -> (s.bl.getD k default).els=-1 ∨ ((s.bl.getD k default).at' < (s.bl.getD k default).els /\ (s.bl.getD k default).els < xs.length)
 nest:∀ k k',k < k' -> k' < s.bl.length -> (s.bl.getD k default).en ≠ -1 -> (s.bl.getD k' default).at' < (s.bl.getD k default).en -> (s.bl.getD k' default).en ≠ -1 /\ (s.bl.getD k' default).en < (s.bl.getD k default).en
 deep:s.op.length <= 40
 few:s.bl.length <= xs.length
theorem zX (l:List Bk) (b:Bk) (k:Nat):(l ++ [b]).getD k default=if k=l.length then b else l.getD k default:=by
 by_cases h:k=l.length
 ·subst h;simp [List.getD]
 ·rw [if_neg h]
  by_cases h2:k < l.length
  ·simp [List.getD,List.getElem?_append_left h2]
  ·simp only [List.getD]
   rw [List.getElem?_eq_none (by simp;omega),List.getElem?_eq_none (by omega)]
theorem uM (l:List Bk) (b:Bk) (k j:Nat) (hj:j < l.length):(l.set j b).getD k default=if k=j then b else l.getD k default:=by
 by_cases h:k=j
 ·subst h;simp [List.getD,hj]
 ·rw [if_neg h]
  simp [List.getD,Ne.symm h]
theorem NsInv.nsStart:NsInv [] j8:=by
 constructor <;> simp [Proofs.YtbkofpljchkkaaaGreat.j8]
theorem qCg (xs:List Int) (x:Int) (i:Nat) (h:i < xs.length):(xs ++ [x]).getD i 0=xs.getD i 0:=by
 simp [List.getD,List.getElem?_append_left h]
theorem NsInv.nsStep {xs:List Int} {s s':Ns} {x:Int} (h:NsInv xs s) (hs:jR xs.length x s=some s'):NsInv (xs ++ [x]) s':=by
 have hlen:(xs ++ [x]).length=xs.length + 1:=by simp
 have htn:∀ k,k < s.bl.length -> (s.bl.getD k default).at'.toNat < xs.length:=fun k hk=>by have:=h.lo k hk;omega
 unfold Proofs.YtbkofpljchkkaaaGreat.jR at hs;by_cases hb:xN x=true
 ·rw [if_pos hb] at hs
  by_cases h40:s.op.length=40
  ·rw [if_pos h40] at hs;cases hs
  ·rw [if_neg h40] at hs
   simp only [Option.some.injEq] at hs;subst hs;have hd:=h.deep;have hf:=h.few;refine ⟨?_,?_,?_,?_,?_,?_,?_,by simp;omega,by simp;omega⟩
   ·intro k hk
    simp only [qW7,List.length_singleton] at hk;rw [zX,hlen];by_cases e:k=s.bl.length
    ·rw [if_pos e];simp only;omega
    ·rw [if_neg e];have:=h.lo k (by omega);omega
   ·intro k k' hkk hk
    simp only [qW7,List.length_singleton] at hk;rw [zX,zX,if_neg (show k ≠ s.bl.length by omega)];by_cases e:k'=s.bl.length
    ·rw [if_pos e];simp only;have:=h.lo k (by omega);omega
    ·rw [if_neg e];exact h.inc k k' hkk (by omega)
   ·intro p hp
    simp only [List.mem_cons] at hp;rcases hp with rfl | hp
    ·simp only
     rw [zX,if_pos rfl];refine ⟨by simp,rfl,?_⟩;simp
    ·obtain ⟨h1,h2,h3⟩:=h.opn p hp
     rw [zX,if_neg (show p.1 ≠ s.bl.length by omega)];refine ⟨by simp;omega,h2,?_⟩;rw [qCg _ _ _ (htn p.1 h1)];exact h3
   ·refine List.Pairwise.cons (fun q hq=>?_) h.dec
    exact (h.opn q hq).1
   ·intro k hk
    simp only [qW7,List.length_singleton] at hk;by_cases e:k=s.bl.length
    ·subst e;exact .inl ⟨_,List.mem_cons_self ..⟩
    ·rw [zX,if_neg e,hlen]
     rcases h.cls k (by omega) with ⟨f,hf⟩ | hc
     ·exact .inl ⟨f,List.mem_cons_of_mem _ hf⟩
     ·exact .inr ⟨hc.1,by omega⟩
   ·intro k hk
    simp only [qW7,List.length_singleton] at hk;rw [zX,hlen];by_cases e:k=s.bl.length
    ·rw [if_pos e];exact .inl rfl
    ·rw [if_neg e]
     rcases h.els k (by omega) with hc | hc
     ·exact .inl hc
     ·exact .inr ⟨hc.1,by omega⟩
   ·intro k k' hkk hk
    simp only [qW7,List.length_singleton] at hk;rw [zX,zX,if_neg (show k ≠ s.bl.length by omega)];by_cases e:k'=s.bl.length
    ·rw [if_pos e]
     intro hen hat;simp only at hat;rcases h.cls k (by omega) with ⟨f,hf⟩ | hc
     ·exact absurd (h.opn _ hf).2.1 hen
     ·omega
    ·rw [if_neg e];exact h.nest k k' hkk (by omega)
 ·rw [if_neg hb] at hs
  by_cases h5:x=5
  ·rw [if_pos h5] at hs
   match hop:s.op with
   | []=>rw [hop] at hs;cases hs
   | (k0,false) :: r=>rw [hop] at hs;cases hs
   | (k0,true) :: r =>
     rw [hop] at hs;simp only [Option.some.injEq] at hs;subst hs;obtain ⟨g1,g2,g3⟩:=h.opn (k0,true) (by rw [hop];simp);simp only at g1 g2 g3;have hel:=(g3.1 trivial).2;have hl0:=h.lo k0 g1
     have hat:∀ k,((qAx s k0 (xs.length:Int)).getD k default).at'=(s.bl.getD k default).at':=by
      intro k;unfold qAx;rw [uM _ _ _ _ g1];by_cases e:k=k0
      ·subst e;simp
      ·simp [e]
     have hen:∀ k,((qAx s k0 (xs.length:Int)).getD k default).en=(s.bl.getD k default).en:=by
      intro k;unfold qAx;rw [uM _ _ _ _ g1];by_cases e:k=k0
      ·subst e;simp
      ·simp [e]
     have hes:∀ k,((qAx s k0 (xs.length:Int)).getD k default).els=if k=k0 then (xs.length:Int) else (s.bl.getD k default).els:=by
      intro k;unfold qAx;rw [uM _ _ _ _ g1];by_cases e:k=k0
      ·subst e;simp
      ·simp [e]
     have hll:(qAx s k0 (xs.length:Int)).length=s.bl.length:=by simp [qAx]
     have hdec:=h.dec;rw [hop] at hdec;have hdeep:=h.deep;rw [hop] at hdeep;refine ⟨?_,?_,?_,?_,?_,?_,?_,by simpa using hdeep,by simp only [hll,hlen];have:=h.few;omega⟩
     ·intro k hk;simp only [hll] at hk;simp only [hat];rw [hlen];have:=h.lo k hk;omega
     ·intro k k' hkk hk;simp only [hll] at hk;simp only [hat];exact h.inc k k' hkk hk
     ·intro p hp
      simp only [List.mem_cons] at hp;simp only [hll,hat,hen,hes];rcases hp with rfl | hp
      ·refine ⟨g1,g2,?_⟩
       simp
      ·obtain ⟨h1,h2,h3⟩:=h.opn p (by rw [hop];exact List.mem_cons_of_mem _ hp)
       have hne:p.1 < k0:=(List.pairwise_cons.1 hdec).1 p hp;refine ⟨h1,h2,?_⟩;rw [if_neg (by omega),qCg _ _ _ (htn p.1 h1)];exact h3
     ·exact List.Pairwise.cons (fun q hq=>(List.pairwise_cons.1 hdec).1 q hq) (List.pairwise_cons.1 hdec).2
     ·intro k hk
      simp only [hll] at hk;simp only [hat,hen];rcases h.cls k hk with ⟨f,hf⟩ | hc
      ·rw [hop] at hf
       simp only [List.mem_cons,Prod.mk.injEq] at hf;rcases hf with ⟨rfl,rfl⟩ | hf
       ·exact .inl ⟨false,by simp⟩
       ·exact .inl ⟨f,by simp [hf]⟩
      ·exact .inr ⟨hc.1,by omega⟩
     ·intro k hk
      simp only [hll] at hk;simp only [hat,hes];by_cases e:k=k0
      ·rw [if_pos e];subst e;exact .inr ⟨by omega,by omega⟩
      ·rw [if_neg e]
       rcases h.els k hk with hc | hc
       ·exact .inl hc
       ·exact .inr ⟨hc.1,by omega⟩
     ·intro k k' hkk hk;simp only [hll] at hk;simp only [hat,hen];exact h.nest k k' hkk hk
  ·rw [if_neg h5] at hs
   by_cases h11:x=11
   ·rw [if_pos h11] at hs
    match hop:s.op with
    | []=>rw [hop] at hs;cases hs
    | (k0,f0) :: r =>
      rw [hop] at hs;simp only [Option.some.injEq] at hs;subst hs;obtain ⟨g1,g2,g3⟩:=h.opn (k0,f0) (by rw [hop];simp);simp only at g1 g2 g3;have hl0:=h.lo k0 g1
      have hat:∀ k,((qAy s k0 (xs.length:Int)).getD k default).at'=(s.bl.getD k default).at':=by
       intro k;unfold qAy;rw [uM _ _ _ _ g1];by_cases e:k=k0
       ·subst e;simp
       ·simp [e]
      have hes:∀ k,((qAy s k0 (xs.length:Int)).getD k default).els=(s.bl.getD k default).els:=by
       intro k;unfold qAy;rw [uM _ _ _ _ g1];by_cases e:k=k0
       ·subst e;simp
       ·simp [e]
      have hen:∀ k,((qAy s k0 (xs.length:Int)).getD k default).en=if k=k0 then (xs.length:Int) else (s.bl.getD k default).en:=by
       intro k;unfold qAy;rw [uM _ _ _ _ g1];by_cases e:k=k0
       ·subst e;simp
       ·simp [e]
      have hll:(qAy s k0 (xs.length:Int)).length=s.bl.length:=by simp [qAy]
      have hdec:=h.dec;rw [hop] at hdec;have hdeep:=h.deep;rw [hop] at hdeep;have hd2:=List.pairwise_cons.1 hdec;refine ⟨?_,?_,?_,hd2.2,?_,?_,?_,by simp at hdeep ⊢;omega,by simp only [hll,hlen];have:=h.few;omega⟩
      ·intro k hk;simp only [hll] at hk;simp only [hat];rw [hlen];have:=h.lo k hk;omega
      ·intro k k' hkk hk;simp only [hll] at hk;simp only [hat];exact h.inc k k' hkk hk
      ·intro p hp
       simp only [hll,hat,hen,hes];obtain ⟨h1,h2,h3⟩:=h.opn p (by rw [hop];exact List.mem_cons_of_mem _ hp);have hne:p.1 < k0:=hd2.1 p hp;refine ⟨h1,by rw [if_neg (by omega)];exact h2,?_⟩;rw [qCg _ _ _ (htn p.1 h1)];exact h3
      ·intro k hk
       simp only [hll] at hk;simp only [hat,hen];by_cases e:k=k0
       ·rw [if_pos e];subst e;exact .inr ⟨by omega,by omega⟩
       ·rw [if_neg e]
        rcases h.cls k hk with ⟨f,hf⟩ | hc
        ·rw [hop] at hf
         simp only [List.mem_cons,Prod.mk.injEq] at hf;rcases hf with ⟨rfl,rfl⟩ | hf
         ·exact absurd rfl e
         ·exact .inl ⟨f,hf⟩
        ·exact .inr ⟨hc.1,by omega⟩
      ·intro k hk
       simp only [hll] at hk;simp only [hat,hes];rcases h.els k hk with hc | hc
       ·exact .inl hc
       ·exact .inr ⟨hc.1,by omega⟩
      ·intro k k' hkk hk
       simp only [hll] at hk;simp only [hat,hen];have hin:=h.inc k k' hkk hk;by_cases e:k=k0
       ·subst e
        rw [if_pos rfl,if_neg (by omega)];intro _ _;rcases h.cls k' hk with ⟨f,hf⟩ | hc
        ·rw [hop] at hf
         simp only [List.mem_cons,Prod.mk.injEq] at hf;rcases hf with ⟨rfl,rfl⟩ | hf
         ·omega
         ·have:=hd2.1 _ hf;simp at this;omega
        ·have:=h.lo k' hk;exact ⟨by omega,by omega⟩
       ·rw [if_neg e]
        by_cases e':k'=k0
        ·subst e'
         rw [if_pos rfl];intro hne hlt;exact absurd g2 (h.nest k k' hkk hk hne hlt).1
        ·rw [if_neg e'];exact h.nest k k' hkk hk
   ·rw [if_neg h11] at hs
    simp only [Option.some.injEq] at hs;subst hs;refine ⟨?_,h.inc,?_,h.dec,?_,?_,h.nest,h.deep,by rw [hlen];have:=h.few;omega⟩
    ·intro k hk;rw [hlen];have:=h.lo k hk;omega
    ·intro p hp
     obtain ⟨h1,h2,h3⟩:=h.opn p hp;refine ⟨h1,h2,?_⟩;rw [qCg _ _ _ (htn p.1 h1)];exact h3
    ·intro k hk
     rcases h.cls k hk with hc | hc
     ·exact .inl hc
     ·exact .inr ⟨hc.1,by omega⟩
    ·intro k hk
     rcases h.els k hk with hc | hc
     ·exact .inl hc
     ·exact .inr ⟨hc.1,by omega⟩
theorem NsInv.of:∀ (n:Nat) (xs:List Int),xs.length=n -> ∀ s,qCf 0 xs Proofs.YtbkofpljchkkaaaGreat.j8=some s -> NsInv xs s
 | 0,xs,hn,s,h=>by
   have:xs=[]:=List.eq_nil_of_length_eq_zero hn;subst this;simp only [qCf,Option.some.injEq] at h;subst h;exact NsInv.nsStart
 | n + 1,xs,hn,s,h=>by
   obtain ⟨ys,y,rfl⟩:∃ ys y,xs=ys ++ [y]:=⟨xs.dropLast,xs.getLast (by intro e;simp [e] at hn),(List.dropLast_concat_getLast _).symm⟩
   rw [qGa] at h;simp only [Nat.zero_add] at h
   cases hr:qCf 0 ys Proofs.YtbkofpljchkkaaaGreat.j8 with
   | none=>rw [hr] at h;cases h
   | some t =>
     rw [hr] at h;exact (NsInv.of n ys (by simpa using hn) t hr).nsStep h
open Go.RowKit
theorem qSr:(Tryz.prog.info? 261).map (fun i=>(i.zero,i.size,i.bytes))=some (some (.agg #[.int .i64 0,.int .i64 0,.int .i64 0]),3,24):=by kernel_rfl
theorem qSs:(Tryz.prog.info? 260).map (fun i=>(i.zero,i.size,i.bytes))=some (some (.agg #[.int .i64 0,.bool false]),2,16):=by kernel_rfl
def bkC (z:Int) (b:Bk):List Value:=[.int .i64 b.at',.int .i64 b.els,.int .i64 (if b.en=-1 then z else b.en)]
def opC (p:Nat × Bool):List Value:=[.int .i64 (p.1:Int),.bool p.2]
def qEu (B:Nat) (w:World) (p:Nat) (s:Ns):Prop :=
 ∃ vb vo,Pair w p vb vo /\ B <= p /\ OwnC 261 3 B w vb (s.bl.map (bkC 0)) /\ OwnC 260 2 B w vo (s.op.reverse.map opC) /\
  (∀ g,vb.ownBlock=some g -> g ≠ p) /\ (∀ g,vo.ownBlock=some g -> g ≠ p) /\ (∀ g,vb.ownBlock=some g -> vo.ownBlock ≠ some g)
theorem Pair.grown {w w':World} {p:Nat} {x y:Value} {r:Option Nat} (h:Pair w p x y) (hg:w.grownBy w' r) (hr:r ≠ some p):Pair w' p x y:=by
 have hlt:p < w.heap.size:=qXc w _ h.c0;have hb:=hg.block p hlt (fun e=>hr e.symm);exact ⟨(World.cell?_of_block (a:=⟨p,0,none⟩) hb).trans h.c0,(World.cell?_of_block (a:=⟨p,1,none⟩) hb).trans h.c1,(World.frozen?_of_block (a:=⟨p,0,none⟩) hb).trans h.f0,(World.frozen?_of_block (a:=⟨p,1,none⟩) hb).trans h.f1⟩
theorem Pair.set0 {w:World} {p:Nat} {x y:Value} (h:Pair w p x y) (x':Value):Pair (w.setCell ⟨p,0,none⟩ x') p x' y:=by
 have c0:=h.c0;have c1:=h.c1;have f0:=h.f0;have f1:=h.f1;constructor <;> go_simp
theorem Pair.set1 {w:World} {p:Nat} {x y:Value} (h:Pair w p x y) (y':Value):Pair (w.setCell ⟨p,1,none⟩ y') p x y':=by
 have c0:=h.c0;have c1:=h.c1;have f0:=h.f0;have f1:=h.f1;constructor <;> go_simp
theorem Pair.lt {w:World} {p:Nat} {x y:Value} (h:Pair w p x y):p < w.heap.size:=qXc w _ h.c0
theorem Pair.drew {w:World} {p:Nat} {x y:Value} (h:Pair w p x y):Pair w.drew p x y:=⟨h.c0,h.c1,h.f0,h.f1⟩
theorem qEu.shape {B:Nat} {w:World} {p:Nat} {s:Ns} (h:qEu B w p s):∃ bo bc oo oc,Pair w p (.slice bo s.bl.length bc) (.slice oo s.op.length oc) /\ B <= p /\ OwnC 261 3 B w (.slice bo s.bl.length bc) (s.bl.map (bkC 0)) /\
    OwnC 260 2 B w (.slice oo s.op.length oc) (s.op.reverse.map opC) /\ s.bl.length <= bc /\ bc <= 9223372036854775807 /\ s.op.length <= oc /\ oc <= 9223372036854775807 /\
    (∀ ad,bo=some ad -> ad.block ≠ p) /\ (∀ ad,oo=some ad -> ad.block ≠ p) /\ (∀ ad ad',bo=some ad -> oo=some ad' -> ad.block ≠ ad'.block) /\
    (0 < s.bl.length -> ∃ g,bo=some ⟨g,0,none⟩) /\ (0 < s.op.length -> ∃ g,oo=some ⟨g,0,none⟩):=by
 obtain ⟨vb,vo,hp,hB,hb,ho,n1,n2,n3⟩:=h
 obtain ⟨bo,bc,rfl,h1,h2,h3⟩:=hb.shape
 obtain ⟨oo,oc,rfl,h4,h5,h6⟩:=ho.shape
 simp only [List.length_map,List.length_reverse] at *
 refine ⟨bo,bc,oo,oc,hp,hB,hb,ho,h1,h2,h4,h5,fun ad e=>n1 _ (by rw [e];rfl),fun ad e=>n2 _ (by rw [e];rfl),fun ad ad' e e' h=>?_,h3,h6⟩
 exact n3 ad.block (by rw [e];rfl) (by rw [e',h];rfl)
theorem qPf (B p:Nat) (s:Ns) (x:Int) (i:Nat) (w:World) (hN:qEu B w p s) (h40:s.op.length=40) :
    Calls Tryz.prog 210 #[.pointer (some ⟨p,0,none⟩),.int .i64 x,.int .i64 i] w fun e w'=>e=.returned (.bool false) /\ w=w':=by
 obtain ⟨bo,bc,oo,oc,hp,_⟩:=hN.shape
 rw [h40] at hp
 have c0:=hp.c0
 have c1:=hp.c1
 clear hp hN
 go_enter Tryz.func210,Tryz.ntmps210
 go_wp2_with fail
 go_ret
 exact ⟨rfl,rfl⟩
theorem qPg {B H p bn on bc oc g cap:Nat} {bo oo:Option Addr} {w w1 w2:World} {rb ro:List (List Value)} {r:List Value}
    (hp:Pair w p (.slice bo bn bc) (.slice oo on oc)) (hb:OwnC 261 3 B w (.slice bo bn bc) rb) (ho:OwnC 260 2 B w (.slice oo on oc) ro) (hB:B <= w.heap.size)
    (n1:∀ ad,bo=some ad -> ad.block ≠ p) (n2:∀ ad,oo=some ad -> ad.block ≠ p) (n3:∀ ad ad',bo=some ad -> oo=some ad' -> ad.block ≠ ad'.block)
    (hw:Below w.heap.size w w1) (hH:w.heap.size < H) (hr:r.length=2) (hn:ro.length=on)
    (o2:w2.ownsRow B 260 2 (.slice (some ⟨g,0,none⟩) (on + 1) cap) (on + 1) (ro.flatten ++ r)) (g2:w1.grownBy w2 (Value.slice oo on oc).ownBlock) (hg:(Value.slice oo on oc).ownBlock=some g ∨ g=H) :
    Pair w2 p (.slice bo bn bc) (.slice oo on oc) /\ OwnC 261 3 B w2 (.slice bo bn bc) rb /\ OwnC 260 2 B w2 (.slice (some ⟨g,0,none⟩) (on + 1) cap) (ro ++ [r]) /\ Below B w w2 /\ g ≠ p /\ (∀ ad,bo=some ad -> ad.block ≠ g) /\ w1.heap.size <= w2.heap.size:=by
 have hlt:=hp.lt
 have hlb:=hb.lt
 have hlo:=ho.lt
 have hgg:g ≠ p /\ (∀ ad,bo=some ad -> ad.block ≠ g):=by
  rcases hg with hg | hg
  ·cases oo with
   | none=>simp [Value.ownBlock] at hg
   | some ad =>
     simp [Value.ownBlock] at hg;subst hg;exact ⟨n2 ad rfl,fun ad' e=>n3 ad' ad e rfl⟩
  ·refine ⟨by omega,fun ad e=>?_⟩
   have:=(hlb ad.block (by rw [e];rfl)).2;omega
 refine ⟨(hp.below hw).grown g2 ?_,(hb.below hw (qW8 _)).grown g2 ?_,OwnC.snoc r hr ho.wid (by omega) o2,?_,hgg.1,hgg.2,g2.size⟩
 ·cases oo with
  | none=>simp [Value.ownBlock]
  | some ad=>simp only [Value.ownBlock];intro e;exact n2 ad rfl (by simpa using e)
 ·intro x hx
  cases oo with
  | none=>simp [Value.ownBlock]
  | some ad =>
    cases bo with
    | none=>simp [Value.ownBlock] at hx
    | some ad' =>
      simp [Value.ownBlock] at hx ⊢;have:=n3 ad' ad rfl rfl;omega
 ·refine xB (qXh _ _) hw g2 ?_ hB |> fun h=>h
  intro b hb';exact (hlo b hb').1
theorem qPh {B H p bn bc on oc g cap:Nat} {bo oo:Option Addr} {x0:Value} {w w1 w2:World} {rb ro:List (List Value)} {r:List Value}
    (hp:Pair w p x0 (.slice oo on oc)) (hB:B <= p) (hb:OwnC 261 3 B w (.slice bo bn bc) rb) (ho:OwnC 260 2 B w (.slice oo on oc) ro)
    (n1:∀ ad,bo=some ad -> ad.block ≠ p) (n2:∀ ad,oo=some ad -> ad.block ≠ p) (n3:∀ ad ad',bo=some ad -> oo=some ad' -> ad.block ≠ ad'.block)
    (hw:Below w.heap.size w w1) (hH:w.heap.size <= H) (hr:r.length=3) (hn:rb.length=bn)
    (o2:w2.ownsRow B 261 3 (.slice (some ⟨g,0,none⟩) (bn + 1) cap) (bn + 1) (rb.flatten ++ r)) (g2:w1.grownBy w2 (Value.slice bo bn bc).ownBlock) (hg:(Value.slice bo bn bc).ownBlock=some g ∨ g=H) :
    Pair w2 p x0 (.slice oo on oc) /\ OwnC 261 3 B w2 (.slice (some ⟨g,0,none⟩) (bn + 1) cap) (rb ++ [r]) /\ OwnC 260 2 B w2 (.slice oo on oc) ro /\ Below B w w2 /\ g ≠ p /\ (∀ ad,oo=some ad -> ad.block ≠ g):=by
 have hlt:=hp.lt
 have hlb:=hb.lt
 have hlo:=ho.lt
 have hgg:g ≠ p /\ (∀ ad,oo=some ad -> ad.block ≠ g):=by
  rcases hg with hg | hg
  ·cases bo with
   | none=>simp [Value.ownBlock] at hg
   | some ad =>
     simp [Value.ownBlock] at hg;subst hg;exact ⟨n1 ad rfl,fun ad' e e'=>n3 ad ad' rfl e e'.symm⟩
  ·refine ⟨by omega,fun ad e=>?_⟩
   have:=(hlo ad.block (by rw [e];rfl)).2;omega
 refine ⟨(hp.below hw).grown g2 ?_,OwnC.snoc r hr hb.wid (by omega) o2,(ho.below hw (qW8 _)).grown g2 ?_,?_,hgg.1,hgg.2⟩
 ·cases bo with
  | none=>simp [Value.ownBlock]
  | some ad=>simp only [Value.ownBlock];intro e;exact n1 ad rfl (by simpa using e)
 ·intro x hx
  cases bo with
  | none=>simp [Value.ownBlock]
  | some ad =>
    cases oo with
    | none=>simp [Value.ownBlock] at hx
    | some ad' =>
      simp [Value.ownBlock] at hx ⊢;have:=n3 ad ad' rfl rfl;omega
 ·exact xB (qXh _ _) hw g2 (fun b hb'=>(hlb b hb').1) (by omega)
theorem qPi (B p:Nat) (s:Ns) (x:Int) (i:Nat) (w:World) (hN:qEu B w p s) (h40:s.op.length < 40) (hbl:s.bl.length <= 400) :
    Calls Tryz.prog 210 #[.pointer (some ⟨p,0,none⟩),.int .i64 x,.int .i64 i] w fun e w'=>e=.returned (.bool true) /\ qEu B w' p ⟨s.bl ++ [⟨i,-1,-1⟩],(s.bl.length,x == 4) :: s.op⟩ /\ Below B w w':=by
 obtain ⟨bo,bc,oo,oc,hp,hB,hb,ho,h1,h2,h3,h4,n1,n2,n3,_,_⟩:=hN.shape
 obtain ⟨bn,hbn⟩:∃ bn,bn=s.bl.length:=⟨_,rfl⟩
 obtain ⟨on,hon⟩:∃ on,on=s.op.length:=⟨_,rfl⟩
 rw [<- hbn] at hp hb h1 hbl ⊢
 rw [<- hon] at hp ho h3 h40
 have HBN:=hid hbn
 have HON:=hid hon
 have HP:=hid hp
 have HO:=hid ho
 have HBK:=hid hb
 have HN1:=hid n1
 have HN2:=hid n2
 have HN3:=hid n3
 have c0:=hp.c0
 have c1:=hp.c1
 have hplt:=hp.lt
 have h40':((on:Int) == 40)=false:=by simp;omega
 obtain ⟨fl,hfl⟩:∃ fl,fl=(x == 4):=⟨_,rfl⟩
 have HFL:=hid hfl
 rw [<- hfl]
 have hfl':=hfl.symm
 clear hN hbn hon hb ho n1 n2 n3 hp hfl
 obtain ⟨i0,hi0,hz0,hz1,hz2⟩:=info_parts qSs
 obtain ⟨i1,hi1,hy0,hy1,hy2⟩:=info_parts qSr
 go_enter Tryz.func210,Tryz.ntmps210
 go_wp2_with fail
 have hnews:∀ j u,[Value.int .i64 bn,.bool fl][j]?=some u -> (w.alloc (.cells #[.int .i64 bn,.bool fl] 260)).drew.cell? ((⟨w.heap.size,0,none⟩:Addr).add j)=some u:=World.news_of_block (heap_alloc_new w _)
 have HNW:=hid hnews
 have hro:=HO.out.rowN (n:=on) (by simp [HON.out])
 have HRO:=hid hro
 clear hro hnews
 have hbel:Below w.heap.size w (w.alloc (.cells #[.int .i64 bn,.bool fl] 260)).drew:=(Bl.alloc (Bl.refl w) _).drew
 have hBw:B <= w.heap.size:=by omega
 go_region_law (refine step_append_lies _ rfl (.tmp 17) (.tmp 26) 231 rfl B 260 i0 _ 2 16 Tryz.underlying231 hi0 hz0 hz1 hz2 rfl (by decide) (.slice oo on oc) on _ rfl (HRO.out.alloc _).drew ⟨w.heap.size,0,none⟩ 1 1 [.int .i64 bn,.bool fl] rfl rfl HNW.out (by simp [Value.oneCell']) (by decide) (by unfold maxLen;omega) (by omega) (by simp;omega) (w.heap.size + 1) (by simp) ?_;intro g cap2 w2 o2 g2 hg2 _
                have hM:=hid (qPg HP.out HBK.out HO.out hBw HN1.out HN2.out HN3.out hbel (by simp) (by rfl) (by simp [HON.out]) o2 g2 hg2)
                have m1:=hM.out.1.c1
                have m2:=hM.out.1.f1
                clear o2 g2 hg2)
 all_goals
  obtain ⟨q1,q2,q3,q4,q5,q6,q7⟩:=hM.out
  have HP3:=hid (q1.set1 (.slice (some ⟨g,0,none⟩) (on + 1) cap2))
  have HB3:=hid (q2.aside (p:=⟨p,1,none⟩) (fun b hb=>by cases bo with
   | none=>simp [Value.ownBlock] at hb
   | some ad=>simp [Value.ownBlock] at hb;rw [<- hb];exact HN1.out ad rfl) (.slice (some ⟨g,0,none⟩) (on + 1) cap2))
  have HO3:=hid (q3.aside (p:=⟨p,1,none⟩) (fun b hb=>by simp [Value.ownBlock] at hb;rw [<- hb];exact q5) (.slice (some ⟨g,0,none⟩) (on + 1) cap2))
  have HL3:=hid (Below.setCell q4 (p:=⟨p,1,none⟩) hB (.slice (some ⟨g,0,none⟩) (on + 1) cap2))
  have hsz3:B <= (w2.setCell ⟨p,1,none⟩ (.slice (some ⟨g,0,none⟩) (on + 1) cap2)).heap.size:=by have:=q4.size;simp;omega
  generalize w2.setCell ⟨p,1,none⟩ (.slice (some ⟨g,0,none⟩) (on + 1) cap2)=w3 at HP3 HB3 HO3 HL3 hsz3 ⊢
  have HG:=hid (And.intro q5 q6)
  clear m1 m2 hM q1 q2 q3 q4 q5 q6 q7 HP HO HBK c0 c1 HNW HRO hbel HN2 HN3
  have hrb:=HB3.out.rowN (n:=bn) (by simp [HBN.out])
  have HRB:=hid hrb
  have c0:=HP3.out.c0
  clear hrb
  go_wp2_with (at_builtin;apply jF)
  refine hid ?_
  have hro:(Value.slice (some ⟨g,0,none⟩) (on + 1) cap2).ownBlock=some g:=rfl
  refine wpList_append_lies _ rfl (.tmp 34) (.tmp 37) 215 rfl B 261 i1 _ 3 24 Tryz.underlying215 hi1 hy0 hy1 hy2 rfl (by decide) (.slice bo bn bc) bn _ rfl (HRB.out.alloc _) ⟨w3.heap.size,0,none⟩ 1 1 [.int .i64 i,.int .i64 (-1),.int .i64 0] rfl rfl (World.news_of_block (heap_alloc_new w3 _)) (by simp [Value.oneCell']) (by decide) (by unfold maxLen;omega) (by omega) (by simp;omega) (w3.heap.size + 1) (by simp) ?_
  intro g' cap3 w4 o4 g4 hg4 _
  have hE:=hid (qPh HP3.out hB HB3.out HO3.out HN1.out (fun ad e=>by cases e;exact HG.out.1) (fun ad ad' e e'=>by cases e';exact HG.out.2 ad e) (Bl.alloc (Bl.refl w3) (.cells #[.int .i64 i,.int .i64 (-1),.int .i64 0] 261)) (by omega) (by rfl) (by simp [HBN.out]) o4 g4 hg4)
  have e0:=hE.out.1.c0
  have e1:=hE.out.1.f0
  clear o4 g4 hg4 c0 HRB HP3 HB3 HO3
  go_wp2_with fail
  go_ret
  obtain ⟨q1,q2,q3,q4,q5,q6⟩:=hE.out
  refine ⟨rfl,⟨_,_,q1.set0 _,hB,?_,?_,?_,?_,?_⟩,Below.setCell (HL3.out.trans q4) hB _⟩
  ·have:=q2.aside (p:=⟨p,0,none⟩) (fun b hb=>by simp [Value.ownBlock] at hb;rw [<- hb];exact q5) (.slice (some ⟨g',0,none⟩) (bn + 1) cap3)
   simpa [bkC] using this
  ·have:=q3.aside (p:=⟨p,0,none⟩) (fun b hb=>by simp [Value.ownBlock] at hb;rw [<- hb];exact HG.out.1) (.slice (some ⟨g',0,none⟩) (bn + 1) cap3)
   simpa [opC,HBN.out,HFL.out] using this
  ·intro x hx;simp [Value.ownBlock] at hx;rw [<- hx];exact q5
  ·intro x hx;simp [Value.ownBlock] at hx;rw [<- hx];exact HG.out.1
  ·intro x hx
   simp [Value.ownBlock] at hx;have:=q6 _ rfl;simp [Value.ownBlock] at this ⊢;omega
open Go.RowKit
theorem qMr (B p:Nat) (s:Ns) (i:Nat) (w:World) (hN:qEu B w p s) (h0:s.op=[]) :
    Calls Tryz.prog 211 #[.pointer (some ⟨p,0,none⟩),.int .i64 i] w fun e w'=>e=.returned (.bool false) /\ w=w':=by
 obtain ⟨bo,bc,oo,oc,hp,_⟩:=hN.shape
 rw [h0] at hp
 have c0:=hp.c0
 have c1:=hp.c1
 clear hp hN
 go_enter Tryz.func211,Tryz.ntmps211
 go_wp2_with fail
 go_ret
 exact ⟨rfl,rfl⟩
theorem qPj (B p:Nat) (s:Ns) (i:Nat) (w:World) (hN:qEu B w p s) (h0:s.op=[]) :
    Calls Tryz.prog 212 #[.pointer (some ⟨p,0,none⟩),.int .i64 i] w fun e w'=>e=.returned (.bool false) /\ w=w':=by
 obtain ⟨bo,bc,oo,oc,hp,_⟩:=hN.shape
 rw [h0] at hp
 have c0:=hp.c0
 have c1:=hp.c1
 clear hp hN
 go_enter Tryz.func212,Tryz.ntmps212
 go_wp2_with fail
 go_ret
 exact ⟨rfl,rfl⟩
theorem qAz {B g n cap k:Nat} {f:Bool} {r:List (Nat × Bool)} {w:World} (h:OwnC 260 2 B w (.slice (some ⟨g,0,none⟩) n cap) (((k,f) :: r).reverse.map opC)) :
    w.cell? ⟨g,r.length * 2,none⟩=some (.int .i64 (k:Int)) /\ w.cell? ⟨g,r.length * 2 + 1,none⟩=some (.bool f) /\ w.frozen? ⟨g,r.length * 2 + 1,none⟩=false:=by
 have hi:r.length < (((k,f) :: r).reverse.map opC).length:=by simp
 have hg:(((k,f) :: r).reverse.map opC).getD r.length []=opC (k,f):=by simp [List.getD]
 have h0:=h.cell r.length 0 hi (u:=.int .i64 (k:Int)) (by rw [hg];rfl)
 have h1:=h.cell r.length 1 hi (u:=.bool f) (by rw [hg];rfl)
 exact ⟨by simpa using h0.1,h1.1,h1.2.1⟩
theorem vW {E:TypeId} {B g n cap k:Nat} {z:Int} {bl:List Bk} {w:World} (h:OwnC E 3 B w (.slice (some ⟨g,0,none⟩) n cap) (bl.map (bkC z))) (hk:k < bl.length) :
    w.cell? ⟨g,k * 3,none⟩=some (.int .i64 (bl.getD k default).at') /\ w.cell? ⟨g,k * 3 + 1,none⟩=some (.int .i64 (bl.getD k default).els) /\
    w.cell? ⟨g,k * 3 + 2,none⟩=some (.int .i64 (if (bl.getD k default).en=-1 then z else (bl.getD k default).en)) /\ w.frozen? ⟨g,k * 3 + 1,none⟩=false /\ w.frozen? ⟨g,k * 3 + 2,none⟩=false:=by
 have hi:k < (bl.map (bkC z)).length:=by simpa using hk
 have hg:(bl.map (bkC z)).getD k []=bkC z (bl.getD k default):=by simp [List.getD,hk]
 have h0:=h.cell k 0 hi (u:=.int .i64 (bl.getD k default).at') (by rw [hg];rfl)
 have h1:=h.cell k 1 hi (u:=.int .i64 (bl.getD k default).els) (by rw [hg];rfl)
 have h2:=h.cell k 2 hi (u:=.int .i64 (if (bl.getD k default).en=-1 then z else (bl.getD k default).en)) (by rw [hg];rfl)
 exact ⟨by simpa using h0.1,h1.1,h2.1,h1.2.1,h2.2.1⟩
theorem qSt {k:Nat} {f:Bool} {r:List (Nat × Bool)} (f':Bool):((((k,f) :: r).reverse.map opC).set r.length (((((k,f) :: r).reverse.map opC).getD r.length []).set 1 (.bool f')))=((k,f') :: r).reverse.map opC:=by
 simp [List.getD,opC]
theorem qMs {z:Int} {s:Ns} {k:Nat} (i:Int) (hk:k < s.bl.length):((s.bl.map (bkC z)).set k (((s.bl.map (bkC z)).getD k []).set 1 (.int .i64 i)))=(qAx s k i).map (bkC z):=by
 have e:(s.bl.map (bkC z)).getD k []=bkC z (s.bl.getD k default):=by simp [List.getD,hk]
 rw [e];unfold qAx;rw [List.map_set];rfl
theorem qMt {z:Int} {s:Ns} {k:Nat} (i:Int) (hk:k < s.bl.length) (hi:i ≠ -1):((s.bl.map (bkC z)).set k (((s.bl.map (bkC z)).getD k []).set 2 (.int .i64 i)))=(qAy s k i).map (bkC z):=by
 have e:(s.bl.map (bkC z)).getD k []=bkC z (s.bl.getD k default):=by simp [List.getD,hk]
 rw [e];unfold qAy;rw [List.map_set];simp [bkC,hi]
theorem qKk (B p:Nat) (s:Ns) (k:Nat) (r:List (Nat × Bool)) (i:Nat) (w:World) (hN:qEu B w p s) (h0:s.op=(k,false) :: r) :
    Calls Tryz.prog 211 #[.pointer (some ⟨p,0,none⟩),.int .i64 i] w fun e w'=>e=.returned (.bool false) /\ w=w':=by
 obtain ⟨bo,bc,oo,oc,hp,hB,hb,ho,h1,h2,h3,h4,n1,n2,n3,_,h5⟩:=hN.shape
 rw [h0] at hp ho h5 h3
 obtain ⟨g,rfl⟩:=h5 (by simp)
 obtain ⟨t1,t2,t3⟩:=qAz ho
 obtain ⟨m,hm⟩:∃ m,m=r.length:=⟨_,rfl⟩
 simp only [qXg,<- hm] at hp h3 t1 t2 t3
 have c0:=hp.c0
 have c1:=hp.c1
 have hm1:(m:Int) + 1 - 1=m:=by omega
 have hm2:((m:Int) < 0)=False:=by simp
 have HM:=hid hm
 clear hp hN hb ho n1 n2 n3 hm h5
 go_enter Tryz.func211,Tryz.ntmps211
 go_wp2_with fail
 go_ret
 exact ⟨rfl,rfl⟩
theorem qSu (B p:Nat) (s:Ns) (k:Nat) (r:List (Nat × Bool)) (i:Nat) (w:World) (hN:qEu B w p s) (h0:s.op=(k,true) :: r) (hk:k < s.bl.length) :
    Calls Tryz.prog 211 #[.pointer (some ⟨p,0,none⟩),.int .i64 i] w fun e w'=>e=.returned (.bool true) /\ qEu B w' p ⟨qAx s k i,(k,false) :: r⟩ /\ Below B w w':=by
 obtain ⟨bo,bc,oo,oc,hp,hB,hb,ho,h1,h2,h3,h4,n1,n2,n3,h6,h5⟩:=hN.shape
 rw [h0] at hp ho h5 h3
 obtain ⟨g,rfl⟩:=h5 (by simp)
 obtain ⟨gb,rfl⟩:=h6 (by omega)
 obtain ⟨t1,t2,t3⟩:=qAz ho
 have n1':=n1 _ rfl
 have n2':=n2 _ rfl
 have n3':=n3 _ _ rfl rfl
 obtain ⟨m,hm⟩:∃ m,m=r.length:=⟨_,rfl⟩
 obtain ⟨bn,hbn⟩:∃ bn,bn=s.bl.length:=⟨_,rfl⟩
 simp only [qXg,<- hm,<- hbn] at hp h3 t1 t2 t3 hb ho h1 hk
 have c0:=hp.c0
 have c1:=hp.c1
 have hm1:(m:Int) + 1 - 1=m:=by omega
 have hm2:((m:Int) < 0)=False:=by simp
 obtain ⟨b1,b2,b3,b4,b5⟩:=vW hb (by rw [<- hbn];exact hk)
 have HM:=hid hm
 have HBN:=hid hbn
 have HP:=hid hp
 have HBL:=hid hb
 have HO:=hid ho
 clear hp hN hb ho n1 n2 n3 hm h5 h6 hbn b1 b3 b5
 simp only at n1' n2' n3'
 go_enter Tryz.func211,Tryz.ntmps211
 go_wp2_with fail
 have hs:=HO.out.set m 1 (.bool false) (by simp [HM.out]) (by decide)
 have HO1:Hid (OwnC 260 2 B (w.setCell ⟨g,m * 2 + 1,none⟩ (.bool false)) (.slice (some ⟨g,0,none⟩) (m + 1) oc) (((k,false) :: r).reverse.map opC)):=hid (by
  have e:=qSt (k:=k) (f:=true) (r:=r) false;rw [<- HM.out] at e;rw [e] at hs
  exact hs)
 have HP1:=hid (HP.out.grown (qH w ⟨g,m * 2 + 1,none⟩ (.bool false)) (fun e=>n2' (by simpa using e)))
 have HB1:=hid (HBL.out.aside (p:=⟨g,m * 2 + 1,none⟩) (fun b hb=>by simp [Value.ownBlock] at hb;simp only;omega) (.bool false))
 have HL1:=hid (Below.setCell (qXh B w) (p:=⟨g,m * 2 + 1,none⟩) (HO.out.lt g rfl).1 (.bool false))
 clear hs c0 c1 b2 b4 t1 t2 t3 HP HBL HO
 generalize w.setCell ⟨g,m * 2 + 1,none⟩ (.bool false)=w1 at HO1 HP1 HB1 HL1 ⊢
 obtain ⟨t1,t2,t3⟩:=qAz HO1.out
 rw [<- HM.out] at t1 t2 t3
 obtain ⟨b1,b2,b3,b4,b5⟩:=vW HB1.out (by rw [<- HBN.out];exact hk)
 have c0:=HP1.out.c0
 have c1:=HP1.out.c1
 clear b1 b3 b5 t2 t3
 go_region
 all_goals
  have hs:=HB1.out.set k 1 (.int .i64 i) (by simp [<- HBN.out];exact hk) (by decide)
  rw [qMs i (by rw [<- HBN.out];exact hk)] at hs
  have HB2:=hid hs
  have HP2:=hid (HP1.out.grown (qH w1 ⟨gb,k * 3 + 1,none⟩ (.int .i64 i)) (fun e=>n1' (by simpa using e)))
  have HO2:=hid (HO1.out.aside (p:=⟨gb,k * 3 + 1,none⟩) (fun b hb=>by simp [Value.ownBlock] at hb;simp only;omega) (.int .i64 i))
  have HL2:=hid (Below.setCell HL1.out (p:=⟨gb,k * 3 + 1,none⟩) (HB1.out.lt gb rfl).1 (.int .i64 i))
  clear hs
  go_wp2_with fail
  go_ret
  refine ⟨rfl,⟨_,_,HP2.out.drew,hB,?_,HO2.out.drew,?_,?_,?_⟩,HL2.out.drew⟩
  ·exact HB2.out.drew
  ·intro x hx;simp [Value.ownBlock] at hx;omega
  ·intro x hx;simp [Value.ownBlock] at hx;omega
  ·intro x hx;simp [Value.ownBlock] at hx ⊢;omega
theorem qU3 (B p:Nat) (s:Ns) (k:Nat) (f:Bool) (r:List (Nat × Bool)) (i:Nat) (w:World) (hN:qEu B w p s) (h0:s.op=(k,f) :: r) (hk:k < s.bl.length) :
    Calls Tryz.prog 212 #[.pointer (some ⟨p,0,none⟩),.int .i64 i] w fun e w'=>e=.returned (.bool true) /\ qEu B w' p ⟨qAy s k i,r⟩ /\ Below B w w':=by
 obtain ⟨bo,bc,oo,oc,hp,hB,hb,ho,h1,h2,h3,h4,n1,n2,n3,h6,h5⟩:=hN.shape
 rw [h0] at hp ho h5 h3
 obtain ⟨g,rfl⟩:=h5 (by simp)
 obtain ⟨gb,rfl⟩:=h6 (by omega)
 obtain ⟨t1,_,_⟩:=qAz ho
 have n1':=n1 _ rfl
 have n2':=n2 _ rfl
 have n3':=n3 _ _ rfl rfl
 obtain ⟨m,hm⟩:∃ m,m=r.length:=⟨_,rfl⟩
 obtain ⟨bn,hbn⟩:∃ bn,bn=s.bl.length:=⟨_,rfl⟩
 simp only [qXg,<- hm,<- hbn] at hp h3 t1 hb ho h1 hk
 have c0:=hp.c0
 have c1:=hp.c1
 have hm1:(m:Int) + 1 - 1=m:=by omega
 have hm2:((m:Int) < 0)=False:=by simp
 obtain ⟨b1,b2,b3,b4,b5⟩:=vW hb (by rw [<- hbn];exact hk)
 have HM:=hid hm
 have HBN:=hid hbn
 have HP:=hid hp
 have HBL:=hid hb
 have HO:=hid ho
 clear hp hN hb ho n1 n2 n3 hm h5 h6 hbn b1 b2 b4
 simp only at n1' n2' n3'
 go_enter Tryz.func212,Tryz.ntmps212
 go_wp2_with fail
 go_region
 all_goals
  have hs:=HBL.out.set k 2 (.int .i64 i) (by simp [<- HBN.out];exact hk) (by decide)
  rw [qMt i (by rw [<- HBN.out];exact hk) (by omega)] at hs
  have HB2:=hid hs
  have HP2:=hid (HP.out.grown (qH w ⟨gb,k * 3 + 2,none⟩ (.int .i64 i)) (fun e=>n1' (by simpa using e)))
  have HO2:=hid (HO.out.aside (p:=⟨gb,k * 3 + 2,none⟩) (fun b hb=>by simp [Value.ownBlock] at hb;simp only;omega) (.int .i64 i))
  have HL2:=hid (Below.setCell (qXh B w) (p:=⟨gb,k * 3 + 2,none⟩) (HBL.out.lt gb rfl).1 (.int .i64 i))
  have c0':=HP2.out.c0
  have c1':=HP2.out.c1
  have f1':=HP2.out.f1
  clear hs c0 c1 t1 b3 b5 HBL HP HO
  generalize w.setCell ⟨gb,k * 3 + 2,none⟩ (.int .i64 i)=w2 at HB2 HP2 HO2 HL2 c0' c1' f1' ⊢
  go_wp2_with fail
  go_ret
  have hT:=HO2.out.take m (by simp [HM.out])
  have hr:(((k,f) :: r).reverse.map opC).take m=r.reverse.map opC:=by
   rw [List.reverse_cons,List.map_append,HM.out,List.take_left' (by simp)]
  rw [hr] at hT
  first
   | refine ⟨rfl,⟨_,_,(HP2.out.drew).set1 _,hB,?_,?_,?_,?_,?_⟩,Below.setCell HL2.out.drew (p:=⟨p,1,none⟩) hB _⟩
     ·exact HB2.out.drew.aside (p:=⟨p,1,none⟩) (fun b hb=>by simp [Value.ownBlock] at hb;simp only;omega) _
     ·exact hT.drew.aside (p:=⟨p,1,none⟩) (fun b hb=>by simp [Value.ownBlock] at hb;simp only;omega) _
     ·intro x hx;simp [Value.ownBlock] at hx;omega
     ·intro x hx;simp [Value.ownBlock] at hx;omega
     ·intro x hx;simp [Value.ownBlock] at hx ⊢;omega
   | refine ⟨rfl,⟨_,_,((HP2.out).set1 _).drew,hB,?_,?_,?_,?_,?_⟩,(Below.setCell HL2.out (p:=⟨p,1,none⟩) hB _).drew⟩
     ·exact (HB2.out.aside (p:=⟨p,1,none⟩) (fun b hb=>by simp [Value.ownBlock] at hb;simp only;omega) _).drew
     ·exact (hT.aside (p:=⟨p,1,none⟩) (fun b hb=>by simp [Value.ownBlock] at hb;simp only;omega) _).drew
     ·intro x hx;simp [Value.ownBlock] at hx;omega
     ·intro x hx;simp [Value.ownBlock] at hx;omega
     ·intro x hx;simp [Value.ownBlock] at hx ⊢;omega
theorem zC (x:Int) (t:Bool) (h:xN x=t) (w:World):Calls Tryz.prog 209 #[.int .i64 x] w fun e w'=>e=.returned (.bool t) /\ w=w':=by
 subst h;unfold xN
 cases h2:(x == 2) <;> cases h3:(x == 3) <;> cases h4:(x == 4)
 all_goals
  go_enter Tryz.func209,Tryz.ntmps209
  go_wp2_with fail
  go_ret
  exact ⟨rfl,rfl⟩
def qWx (B p:Nat) (o:Option Ns) (w:World) (e:Ending) (w':World):Prop :=
 e=.returned (.bool o.isSome) /\ (∀ s,o=some s -> qEu B w' p s) /\ Below B w w'
theorem qSv (B p:Nat) (s:Ns) (x:Int) (i:Nat) (w:World) (hN:qEu B w p s) (hd:s.op.length <= 40) (hbl:s.bl.length <= 400) (htop:∀ q ∈ s.op,q.1 < s.bl.length) :
    Calls Tryz.prog 197 #[.pointer (some ⟨p,0,none⟩),.int .i64 x,.int .i64 i] w (qWx B p (jR i x s) w):=by
 have HN:=hid hN
 have HT:=hid htop
 have HD:=hid hd
 clear hN htop hd
 obtain ⟨o,ho⟩:∃ o,o=jR i x s:=⟨_,rfl⟩
 rw [<- ho]
 have HS:=hid ho
 clear ho
 by_cases hb:xN x=true
 ·have HBG:=hid hb
  clear hb;by_cases h40:s.op.length=40
  ·have ho:o=none:=by rw [HS.out];unfold jR;rw [if_pos HBG.out,if_pos h40]
   have H40:=hid h40;clear h40 HD;go_enter Tryz.func197,Tryz.ntmps197;go_wp2_with fail;refine (zC x true HBG.out w).mono ?_;rintro e w' ⟨rfl,rfl⟩;go_wp2_with fail;refine (qPf B p s x i w HN.out H40.out).mono ?_;rintro e w' ⟨rfl,rfl⟩;go_wp2_with fail;go_ret;subst ho;exact ⟨rfl,fun _ h=>(by cases h),qXh _ _⟩
  ·have ho:o=some ⟨s.bl ++ [⟨i,-1,-1⟩],(s.bl.length,x == 4) :: s.op⟩:=by rw [HS.out];unfold jR;rw [if_pos HBG.out,if_neg h40]
   have h41:s.op.length < 40:=by have:=HD.out;omega
   have HO:=hid ho;have H40:=hid h41;have HBL:=hid hbl;clear h40 HD ho h41 hbl;go_enter Tryz.func197,Tryz.ntmps197;go_wp2_with fail;refine (zC x true HBG.out w).mono ?_;rintro e w' ⟨rfl,rfl⟩;go_wp2_with fail;refine (qPi B p s x i w HN.out H40.out HBL.out).mono ?_;rintro e w' ⟨rfl,hn,hb⟩;have HN2:=hid hn;have HB2:=hid hb;clear hn hb;go_wp2_with fail;go_ret;rw [HO.out];exact ⟨rfl,fun _ h=>(by cases h;exact HN2.out),HB2.out⟩
 ·have hb':xN x=false:=by simpa using hb
  have HBG:=hid hb';clear hb hb';by_cases h5:x=5
  ·subst h5
   have hs:jR i 5 s=(match s.op with | (k,true) :: r=>some ⟨qAx s k i,(k,false) :: r⟩ | _=>none):=by unfold jR;rw [if_neg (by decide),if_pos rfl] <;> rfl
   rw [hs] at HS
   obtain ⟨op,hop⟩:∃ op,s.op=op:=⟨_,rfl⟩
   rw [hop] at HS;have HOP:=hid hop;clear hs hop
   match op,HS,HOP with
   | [],HS,HOP =>
     go_enter Tryz.func197,Tryz.ntmps197;go_wp2_with fail;refine (zC 5 false HBG.out w).mono ?_;rintro e w' ⟨rfl,rfl⟩;go_wp2_with fail;refine (qMr B p s i w HN.out HOP.out).mono ?_;rintro e w' ⟨rfl,rfl⟩;go_wp2_with fail;go_ret;rw [HS.out];exact ⟨rfl,fun _ h=>(by cases h),qXh _ _⟩
   | (k,false) :: r,HS,HOP =>
     go_enter Tryz.func197,Tryz.ntmps197;go_wp2_with fail;refine (zC 5 false HBG.out w).mono ?_;rintro e w' ⟨rfl,rfl⟩;go_wp2_with fail;refine (qKk B p s k r i w HN.out HOP.out).mono ?_;rintro e w' ⟨rfl,rfl⟩;go_wp2_with fail;go_ret;rw [HS.out];exact ⟨rfl,fun _ h=>(by cases h),qXh _ _⟩
   | (k,true) :: r,HS,HOP =>
     have hk:k < s.bl.length:=HT.out (k,true) (by rw [HOP.out];simp);have HK:=hid hk;clear hk;go_enter Tryz.func197,Tryz.ntmps197;go_wp2_with fail;refine (zC 5 false HBG.out w).mono ?_;rintro e w' ⟨rfl,rfl⟩;go_wp2_with fail;refine (qSu B p s k r i w HN.out HOP.out HK.out).mono ?_;rintro e w' ⟨rfl,hn,hb⟩;have HN2:=hid hn;have HB2:=hid hb;clear hn hb;go_wp2_with fail;go_ret;rw [HS.out];exact ⟨rfl,fun _ h=>(by cases h;exact HN2.out),HB2.out⟩
  ·by_cases h11:x=11
   ·subst h11
    have hs:jR i 11 s=(match s.op with | (k,_) :: r=>some ⟨qAy s k i,r⟩ | []=>none):=by unfold jR;rw [if_neg (by decide),if_neg (by decide),if_pos rfl] <;> rfl
    rw [hs] at HS
    obtain ⟨op,hop⟩:∃ op,s.op=op:=⟨_,rfl⟩
    rw [hop] at HS;have HOP:=hid hop;clear hs hop h5
    match op,HS,HOP with
    | [],HS,HOP =>
      go_enter Tryz.func197,Tryz.ntmps197;go_wp2_with fail;refine (zC 11 false HBG.out w).mono ?_;rintro e w' ⟨rfl,rfl⟩;go_wp2_with fail;refine (qPj B p s i w HN.out HOP.out).mono ?_;rintro e w' ⟨rfl,rfl⟩;go_wp2_with fail;go_ret;rw [HS.out];exact ⟨rfl,fun _ h=>(by cases h),qXh _ _⟩
    | (k,f) :: r,HS,HOP =>
      have hk:k < s.bl.length:=HT.out (k,f) (by rw [HOP.out];simp);have HK:=hid hk;clear hk;go_enter Tryz.func197,Tryz.ntmps197;go_wp2_with fail;refine (zC 11 false HBG.out w).mono ?_;rintro e w' ⟨rfl,rfl⟩;go_wp2_with fail;refine (qU3 B p s k f r i w HN.out HOP.out HK.out).mono ?_;rintro e w' ⟨rfl,hn,hb⟩;have HN2:=hid hn;have HB2:=hid hb;clear hn hb;go_wp2_with fail;go_ret;rw [HS.out];exact ⟨rfl,fun _ h=>(by cases h;exact HN2.out),HB2.out⟩
   ·have ho:o=some s:=by rw [HS.out];unfold jR;rw [if_neg (by rw [HBG.out];simp),if_neg h5,if_neg h11]
    have HO:=hid ho;have a5:(x == 5)=false:=by simp [h5]
    have a11:(x == 11)=false:=by simp [h11]
    clear ho HS h5 h11;go_enter Tryz.func197,Tryz.ntmps197;go_wp2_with fail;refine (zC x false HBG.out w).mono ?_;rintro e w' ⟨rfl,rfl⟩;go_wp2_with fail;go_ret;rw [HO.out];exact ⟨rfl,fun _ h=>(by cases h;exact HN.out),qXh _ _⟩
structure Fit (xs:List Int) (bl:List Bk):Prop where
 run:qCf 0 xs j8=some ⟨bl,[]⟩
 len:xs.length <= 300
 inv:NsInv xs ⟨bl,[]⟩
theorem qI9 {xs:List Int} {bl:List Bk}:qC0 xs=some bl ↔ Fit xs bl:=by
 unfold qC0;by_cases h:300 < xs.length
 ·rw [if_pos h]
  exact ⟨fun h'=>(by cases h'),fun h'=>by have:=h'.len;omega⟩
 ·rw [if_neg h]
  constructor
  ·intro h'
   cases hr:qCf 0 xs j8 with
   | none=>rw [hr] at h';cases h'
   | some s =>
     obtain ⟨b,o⟩:=s;rw [hr] at h'
     cases o with
     | nil =>
       simp only [Option.some.injEq] at h';subst h';exact ⟨hr,by omega,NsInv.of _ xs rfl _ hr⟩
     | cons p r=>cases h'
  ·intro h'
   rw [h'.run]
theorem Fit.closed {xs:List Int} {bl:List Bk} (h:Fit xs bl) (k:Nat) (hk:k < bl.length):0 <= (bl.getD k default).at' /\ (bl.getD k default).at' < (bl.getD k default).en /\ (bl.getD k default).en < xs.length:=by
 have h1:=h.inv.lo k hk;rcases h.inv.cls k hk with ⟨f,hf⟩ | hc
 ·cases hf
 ·exact ⟨h1.1,hc.1,hc.2⟩
theorem qSw (l:List Bk) (k:Nat) (h:k < l.length):l.getD k default=l[k]:=by simp [List.getD,h]
theorem qPk {l:List Bk} {b:Bk} (h:b ∈ l):∃ k,k < l.length /\ b=l.getD k default:=by
 obtain ⟨k,hk,rfl⟩:=List.getElem_of_mem h;exact ⟨k,hk,(qSw _ _ hk).symm⟩
open Go.RowKit
def vP (is:List Ins):List Int:=is.map Ins.op
theorem j3 (is:List Ins):(vP is).length=is.length:=by simp [vP]
theorem qGc (is:List Ins) (k:Nat):(vP is).take k=vP (is.take k):=by simp [vP,List.map_take]
theorem qA0 (is:List Ins) (k:Nat) (h:k < is.length):(vP is).getD k 0=(is.getD k default).op:=by simp [vP,List.getD,h]
def qVs (E:TypeId) (o:Option (List Bk)) (w:World) (e:Ending) (w':World):Prop :=
 ∃ v,e=.returned (.tuple #[v,.bool o.isSome]) /\ OwnC E 3 w.heap.size w' v ((o.getD []).map (bkC 0)) /\ Below w.heap.size w w'
theorem vX {xs:List Int} {k:Nat} (h:qCf 0 (xs.take k) j8=none):qC0 xs=none:=by
 unfold qC0;rw [qGb h];split <;> rfl
theorem qGd {xs:List Int} (h:300 < xs.length):qC0 xs=none:=if_pos h
theorem qGe {xs:List Int} {s:Ns} (h:qCf 0 xs j8=some s) (ho:0 < s.op.length):qC0 xs=none:=by
 unfold qC0;rw [h];obtain ⟨bl,op⟩:=s
 cases op with
 | nil=>simp at ho
 | cons p r=>split <;> rfl
theorem qGf {xs:List Int} {s:Ns} (h:qCf 0 xs j8=some s) (ho:s.op.length=0) (hl:xs.length <= 300):qC0 xs=some s.bl:=by
 unfold qC0;rw [if_neg (by omega),h];obtain ⟨bl,op⟩:=s
 cases op with
 | nil=>rfl
 | cons p r=>simp at ho
theorem qEv {xs:List Int} {s:Ns} {k:Nat} (hk:k < xs.length) (h:qCf 0 (xs.take k) j8=some s):qCf 0 (xs.take (k + 1)) j8=jR k (xs.getD k 0) s:=by
 have e:xs.take (k + 1)=xs.take k ++ [xs.getD k 0]:=by
  rw [List.take_succ_eq_append_getElem hk];simp [List.getD,hk]
 rw [e,qGa,h];simp only [Option.bind_some,Nat.zero_add,qXu,Nat.min_eq_left (Nat.le_of_lt hk)]
theorem qEu.below {B p:Nat} {w w':World} {s:Ns} (h:qEu B w p s) (hb:Below w.heap.size w w'):qEu B w' p s:=by
 obtain ⟨vb,vo,hp,hB,h1,h2,n1,n2,n3⟩:=h;exact ⟨vb,vo,hp.below hb,hB,h1.below hb (qW8 _),h2.below hb (qW8 _),n1,n2,n3⟩
theorem qKl (C:Addr -> Prop) (ao:Option Addr) (n cap:Nat) (is:List Ins) (w:World) (hr:RdP w C ao n cap is) (h:300 < n) :
    Calls Tryz.prog 184 #[.slice ao n cap] w (qVs 261 (qC0 (vP is)) w):=by
 have hn63:n <= 9223372036854775807:=by have h1:=hr.le;have h2:=hr.max;unfold maxLen at h2;omega
 rw [qGd (by rw [j3,hr.len];exact h)]
 clear hr
 go_enter Tryz.func184,Tryz.ntmps184
 go_wp2_with fail
 go_ret2
 exact ⟨_,rfl,OwnC.nil _ _ _ _,qXh _ _⟩
theorem qJa (C:Addr -> Prop) (ao:Option Addr) (n cap:Nat) (is:List Ins) (w:World) (hr:RdP w C ao n cap is) :
    Calls Tryz.prog 184 #[.slice ao n cap] w (qVs 261 (qC0 (vP is)) w):=by
 by_cases h3:300 < n
 ·exact qKl C ao n cap is w hr h3
 ·have hn3:n <= 300:=by omega
  have hn3':¬ ((300:Int) < n):=by omega
  have Hr:=hid hr;have Hx:=hid hr.len
  have HN0:Hid (qEu w.heap.size (w.alloc (.cells #[.slice none 0 0,.slice none 0 0] 233)) w.heap.size j8) :=
   hid ⟨_,_,Pair.new w _ _ _ rfl,qW8 _,OwnC.nil _ _ _ _,OwnC.nil _ _ _ _,by simp [Value.ownBlock],by simp [Value.ownBlock],by simp [Value.ownBlock]⟩
  clear hr h3;go_enter Tryz.func184,Tryz.ntmps184;go_wp2_with fail;go_loopw [12] (fun i wr=>∃ k:Nat,k <= n /\ i=.int .i64 k /\ ∃ s,qCf 0 ((vP is).take k) j8=some s /\ qEu w.heap.size wr w.heap.size s /\ Below w.heap.size w wr) (fun i _=>n - (intOf i).toNat)
  case atStart=>exact ⟨0,qXf _,rfl,j8,rfl,HN0.out,Bl.alloc (Bl.refl w) _⟩
  case round =>
   obtain ⟨k,hkn,rfl,s,hs,hN,hb⟩:=hrel;have HS:=hid hs;have HNE:=hid hN;have HB:=hid hb;clear hs hN hb HN0;by_cases hk:k < n
   ·obtain ⟨b,off,lo,ln,lc,rfl,c0,c1,c2,c3,hrl,_⟩:=(Hr.out.below HB.out).cell k hk
    obtain ⟨⟨op,p,q,l⟩,hI⟩:∃ I,I=is.getD k default:=⟨_,rfl⟩
    rw [<- hI] at c0 c1 c2 hrl;simp only at c0 c1 c2 hrl;have HI:=hid hI;clear hI hrl;go_wp2_with fail;have hinv:=NsInv.of _ _ rfl _ HS.out;have htl:((vP is).take k).length=k:=by rw [qXu,j3,Hx.out];omega
    have hd:=hinv.deep;have hf:=hinv.few;rw [htl] at hf;refine (qSv w.heap.size w.heap.size s op k _ (HNE.out.below (Bl.alloc (Bl.refl wr) _)) hd (by omega) (fun q hq=>(hinv.opn q hq).1)).mono ?_;rintro e w1 ⟨rfl,hok,hb1⟩;have hnx:=qEv (xs:=vP is) (k:=k) (by rw [j3,Hx.out];exact hk) HS.out;rw [qA0 is k (by rw [Hx.out];exact hk),<- HI.out] at hnx;simp only at hnx
    obtain ⟨o,ho⟩:∃ o,o=jR k op s:=⟨_,rfl⟩
    rw [<- ho] at hok hnx ⊢;have hsz:w.heap.size <= wr.heap.size:=HB.out.size;have HB1:=hid ((Below.alloc HB.out hsz (.cells #[.int .i64 op,.int .i64 p,.int .i64 q,.slice lo ln lc] 51)).trans hb1);have HOK:=hid hok;have HNX:=hid hnx;clear hinv htl hd hf hok hnx ho hb1 c0 c1 c2 c3 HNE HB HS HI
    cases o with
    | none =>
      have HF:=hid (vX HNX.out);go_wp2_with fail;go_ret2;rw [HF.out];exact ⟨_,rfl,OwnC.nil _ _ _ _,HB1.out⟩
    | some s' =>
      have HN1:=hid (HOK.out s' rfl);clear HOK;simp only [Option.isSome_some];go_wp2_with fail;go_roundw
      case rel=>exact ⟨k + 1,by omega,by go_num,s',HNX.out,HN1.out,HB1.out⟩
      case measure=>simp [intOf];omega
   ·have hkn':k=n:=by omega
    subst hkn';rw [qW9 (by rw [j3,Hx.out];exact qW8 _)] at HS;obtain ⟨bo,bc,oo,oc,hp,hB,hbk,ho,h1,h2,h3,h4,n1,n2,n3,_,_⟩:=HNE.out.shape
    obtain ⟨on,hon⟩:∃ on,on=s.op.length:=⟨_,rfl⟩
    obtain ⟨bn,hbn⟩:∃ bn,bn=s.bl.length:=⟨_,rfl⟩
    rw [<- hon,<- hbn] at hp;rw [<- hbn] at hbk;rw [<- hon] at h3;have c0:=hp.c0;have c1:=hp.c1;have HBK:=hid hbk;have HON:=hid hon;clear hp hbk ho n1 n2 n3 hon hbn HNE hB h1 h2;by_cases hz:on=0
    ·have HF:=hid (qGf HS.out (by rw [<- HON.out];exact hz) (by rw [j3,Hx.out];exact hn3))
     subst hz;go_wp2_with fail;go_ret2;rw [HF.out];exact ⟨_,rfl,HBK.out,HB.out⟩
    ·have HF:=hid (qGe HS.out (by rw [<- HON.out];omega))
     have hz':0 < on:=by omega
     go_wp2_with fail;go_ret2;rw [HF.out];exact ⟨_,rfl,OwnC.nil _ _ _ _,HB.out⟩
open Go.RowKit
def qDu (op:Int):Int:=if xN op=true then 1 else if op=11 then -1 else 0
noncomputable def readB:Nat -> List Int -> List Ins -> Nat -> Int -> List Ins × Nat × Int
 | 0,_,_,_,_=>([],0,4)
 | f + 1,xs,acc,at',d =>
   if (getI (xs.drop at')).2.2=0 then
    (if (getI (xs.drop at')).1.op=11 /\ d=0 then (acc,at' + (getI (xs.drop at')).2.1,0)
     else if acc.length=300 then ([],0,4)
     else readB f xs (acc ++ [(getI (xs.drop at')).1]) (at' + (getI (xs.drop at')).2.1) (d + qDu (getI (xs.drop at')).1.op))
   else ([],0,(getI (xs.drop at')).2.2)
theorem qMu {f:Nat} {xs:List Int} {acc:List Ins} {at':Nat} {d:Int} {I:Ins} {k:Nat} {er:Int} (h:getI (xs.drop at')=(I,k,er)) (he:er ≠ 0):readB (f + 1) xs acc at' d=([],0,er):=by
 rw [readB,h];simp only;rw [if_neg he]
theorem qGg {f:Nat} {xs:List Int} {acc:List Ins} {at':Nat} {d:Int} {I:Ins} {k:Nat} (h:getI (xs.drop at')=(I,k,0)) (ho:I.op=11) (hd:d=0):readB (f + 1) xs acc at' d=(acc,at' + k,0):=by
 rw [readB,h];simp only;rw [if_pos trivial,if_pos ⟨ho,hd⟩]
theorem qKm {f:Nat} {xs:List Int} {acc:List Ins} {at':Nat} {d:Int} {I:Ins} {k:Nat} (h:getI (xs.drop at')=(I,k,0)) (ho:¬ (I.op=11 /\ d=0)) (hl:acc.length=300):readB (f + 1) xs acc at' d=([],0,4):=by
 rw [readB,h];simp only;rw [if_pos trivial,if_neg ho,if_pos hl]
theorem qJb {f:Nat} {xs:List Int} {acc:List Ins} {at':Nat} {d:Int} {I:Ins} {k:Nat} (h:getI (xs.drop at')=(I,k,0)) (ho:¬ (I.op=11 /\ d=0)) (hl:acc.length ≠ 300):readB (f + 1) xs acc at' d=readB f xs (acc ++ [I]) (at' + k) (d + qDu I.op):=by
 rw [readB,h];simp only;rw [if_pos trivial,if_neg ho,if_neg hl]
theorem qSx (op t:Int) (h:qDu op=t) (w:World):Calls Tryz.prog 223 #[.int .i64 op] w fun e w'=>e=.returned (.int .i64 t) /\ w=w':=by
 subst h;unfold qDu
 cases hb:xN op with
 | true =>
   have HB:=hid hb;clear hb;go_enter Tryz.func223,Tryz.ntmps223;go_wp2_with fail;refine (zC op true HB.out w).mono ?_;rintro e w' ⟨rfl,rfl⟩;go_wp2_with fail;go_ret;exact ⟨rfl,rfl⟩
 | false =>
   have HB:=hid hb;clear hb
   cases h11:(op == 11) with
   | true =>
     have:op=11:=by simpa using h11
     subst this;go_enter Tryz.func223,Tryz.ntmps223;go_wp2_with fail;refine (zC 11 false HB.out w).mono ?_;rintro e w' ⟨rfl,rfl⟩;go_wp2_with fail;go_ret;exact ⟨rfl,rfl⟩
   | false =>
     have h2:¬ op=11:=by simpa using h11
     rw [if_neg h2];clear h2;go_enter Tryz.func223,Tryz.ntmps223;go_wp2_with fail;refine (zC op false HB.out w).mono ?_;rintro e w' ⟨rfl,rfl⟩;go_wp2_with fail;go_ret;exact ⟨rfl,rfl⟩
def qV0 (r:List Ins × Nat × Int) (w:World) (e:Ending) (w':World):Prop :=
 ∃ v,e=.returned (.tuple #[v,.int .i64 r.2.1,.int .i64 r.2.2]) /\ qB7 w.heap.size w' v r.1 /\ (∀ I ∈ r.1,okI I) /\ r.1.length <= 300 /\ Below w.heap.size w w'
theorem qPl (op:Int):-1 <= qDu op /\ qDu op <= 1:=by
 unfold qDu;split
 ·omega
 ·split <;> omega
theorem qSy (bo:Option Addr) (m bc:Nat) (xs:List Int) (w:World) (hr:Rd .u8 w bo m bc xs) :
    Calls Tryz.prog 204 #[.slice bo m bc] w (qV0 (readB 301 xs [] 0 0) w):=by
 have hc63:=hr.cap63
 have hle:=hr.le
 have Hr:=hid hr
 have Hx:=hid hr.len
 have HBS:Hid (Bs xs):=hid (fun x hx=>bounds_u8 (hr.wf x hx))
 obtain ⟨r,hres⟩:∃ r,r=readB 301 xs [] 0 0:=⟨_,rfl⟩
 rw [<- hres]
 have HRES:=hid hres
 clear hr hres
 go_enter Tryz.func204,Tryz.ntmps204
 go_wp2_with fail
 go_loopw [5,6,7] (fun v a d wr=>∃ (acc:List Ins) (at':Nat) (dd:Int) (f:Nat),a=.int .i64 at' /\ d=.int .i64 dd /\ at' <= m /\ f + acc.length=301 /\ -acc.length <= dd /\ dd <= acc.length /\ acc.length <= 300 /\ Hid (r=readB f xs acc at' dd) /\ qB7 w.heap.size wr v acc /\ (∀ I ∈ acc,okI I) /\ Below w.heap.size w wr) (fun _ a _ _=>m - (intOf a).toNat)
 case atStart=>exact ⟨[],0,0,301,rfl,rfl,qXf _,rfl,by simp,by simp,by simp,HRES,qB7.nil _ _,(fun _ h=>by cases h),qXh _ _⟩
 case round =>
  obtain ⟨acc,at',dd,f,rfl,rfl,ham,hf,hd0,hd1,hal,HR2,hown,hok,hb⟩:=hrel;have HO:=hid hown;have HB:=hid hb;have HOK:=hid hok;have hszr:=hb.size
  obtain ⟨f,rfl⟩:∃ g,f=g + 1:=⟨f - 1,by omega⟩
  obtain ⟨an,han⟩:∃ an,an=acc.length:=⟨_,rfl⟩
  rw [<- han] at hf hd0 hd1 hal;have HAN:=hid han;clear hown hb hok han;have hcr:=(Hr.out.below HB.out).cut at' m ham (qW8 _);rw [qW9 (by rw [Hx.out];exact qW8 _)] at hcr;have hcut:=vR 37 qGo qGp bo m bc (at':Int) at' rfl ham
  obtain ⟨co,hco⟩:∃ co,co=qEm bo at' bc:=⟨_,rfl⟩
  obtain ⟨cn,hcn⟩:∃ cn,cn=m - at':=⟨_,rfl⟩
  obtain ⟨cc,hcc⟩:∃ cc,cc=bc - at':=⟨_,rfl⟩
  rw [<- hco,<- hcn,<- hcc] at hcr hcut
  obtain ⟨⟨op,p,q,l⟩,k,er,hg⟩:∃ I k er,getI (xs.drop at')=(I,k,er):=⟨_,_,_,rfl⟩
  have HG:=hid hg;have HCR:=hid hcr
  have hk:er=0 -> okI ⟨op,p,q,l⟩ /\ 1 <= k /\ at' + k <= m:=fun he=>by
   subst he;obtain ⟨_,g2,_,g4,g5⟩:=qNm (HBS.out.drop _) HG.out;simp [Hx.out] at g5;exact ⟨g2,g4,by omega⟩
  have HK:=hid hk;clear hco hcn hcc hg hcr hk;go_wp2_with fail;refine (qRq co cn cc (xs.drop at') wr HCR.out ⟨op,p,q,l⟩ k er HG.out).mono ?_;rintro e w1 ⟨lo,ln,lc,rfl,hl,hb1⟩;have HL:=hid hl;have HO1:=hid (HO.out.below hb1 (qW8 _));have HB1:=hid (HB.out.trans (hb1.mono hszr));have hsz1:=hb1.size;have hfar:∀ ad,lo=some ad -> wr.heap.size <= ad.block /\ ad.block < w1.heap.size:=fun ad ha=>hl.lt ad.block (by rw [ha];rfl)
  have HFAR:=hid hfar;have hold:=HO.out.lt;have HOLD:=hid hold;clear hl hb1 hcut hfar hold HO HB HCR;simp only;by_cases he:er=0
  ·subst he
   obtain ⟨hokI,hk1,hkm⟩:=HK.out rfl;have HKI:=hid hokI;clear hokI HK;by_cases hend:op=11 /\ dd=0
   ·obtain ⟨rfl,rfl⟩:=hend
    have hr2:=HR2.out;rw [qGg HG.out rfl rfl] at hr2;have HR3:=hid hr2;clear hr2;go_wp2_with fail;refine bodyPost_ret (v:=.tuple #[u5,.int .i64 ((at' + k:Nat):Int),.int .i64 0]) (by simp [results,Tryz.results204,go_sem]) rfl ?_;rw [HR3.out];exact ⟨_,rfl,HO1.out.below (Bl.alloc (Bl.refl _) _) (qW8 _),HOK.out,by rw [<- HAN.out];exact hal,Below.alloc HB1.out (by omega) _⟩
   ·have htst:(op == 11)=false ∨ ((op == 11)=true /\ (dd == 0)=false):=by
       by_cases h1:op=11
       ·exact .inr ⟨by simp [h1],by simp;exact fun h=>hend ⟨h1,h⟩⟩
       ·exact .inl (by simp [h1])
    by_cases h300:an=300
    ·have hr2:=HR2.out
     rw [qKm HG.out hend (by rw [<- HAN.out];exact h300)] at hr2;have HR3:=hid hr2;clear hr2 hend;obtain ⟨uo,uc,rfl,_⟩:=HO1.out.rd HOK.out;rw [<- HAN.out];subst h300;rcases htst with h1 | ⟨h1,h2⟩
     all_goals
      go_wp2_with fail
      refine bodyPost_ret (v:=.tuple #[.slice none 0 0,.int .i64 ((0:Nat):Int),.int .i64 4]) (by simp [results,Tryz.results204,go_sem]) rfl ?_
      rw [HR3.out]
      exact ⟨_,rfl,qB7.nil _ _,(fun _ h=>by cases h),by simp,Below.alloc HB1.out (by omega) _⟩
    ·have hr2:=HR2.out
     rw [qJb HG.out hend (by rw [<- HAN.out];exact h300)] at hr2;have HR3:=hid hr2;have han3:an < 300:=by omega
     have h300':((an:Int) == 300)=false:=by simp;omega
     have HE:=hid hend;clear hr2 hend h300 HR2
     obtain ⟨tn,htn⟩:∃ tn,qDu op=tn:=⟨_,rfl⟩
     have htb:=qPl op;rw [htn] at htb;have HTN:=hid htn;obtain ⟨uo,uc,rfl,_⟩:=HO1.out.rd HOK.out;rw [<- HAN.out] at HO1 HOLD ⊢;obtain ⟨ps,hps,hrow,hin⟩:=(HO1.out.below (Bl.alloc (Bl.refl w1) (.cells #[.int .i64 op,.int .i64 p,.int .i64 q,.slice lo ln lc] 51)) (qW8 _)).below (Bl.alloc (Bl.refl _) (.cells #[.int .i64 op,.int .i64 p,.int .i64 q,.slice lo ln lc] 51)) (qW8 _);have hpl:ps.length=an:=by have:=congrArg List.length hps;simp at this;rw [HAN.out];exact this
     rw [hpl] at hrow;have HPS:=hid hps;have HROW:=hid hrow;have HIN:=hid hin;have HPL:=hid hpl;have HRL:=hid ((HL.out.rdAt.below (Bl.alloc (Bl.refl w1) (.cells #[.int .i64 op,.int .i64 p,.int .i64 q,.slice lo ln lc] 51))).below (Bl.alloc (Bl.refl _) (.cells #[.int .i64 op,.int .i64 p,.int .i64 q,.slice lo ln lc] 51)));clear hps hrow hin hpl htn HL HO1;have hBX:=Box4.new w1 op p q lo ln lc 51;obtain ⟨i0',hi0,hz0,hz1,hz2⟩:=info_parts qH2;rcases htst with h1 | ⟨h1,h2⟩
     all_goals
      go_wp2_with (at_builtin;apply jF)
      refine hid ?_
      refine wpList_append_lies _ rfl (.tmp 37) (.tmp 39) 47 rfl w.heap.size 51 i0' _ 4 48 Tryz.underlying47 hi0 hz0 hz1 hz2 rfl (by decide) (.slice uo an uc) an _ rfl HROW.out ⟨w1.heap.size + 1,0,none⟩ 1 1 [.int .i64 op,.int .i64 p,.int .i64 q,.slice lo ln lc] (by simp [Act.eval]) rfl (fun j u hu=>by have:=World.news_of_block (heap_alloc_new (w1.alloc (.cells #[.int .i64 op,.int .i64 p,.int .i64 q,.slice lo ln lc] 51)) (.cells #[.int .i64 op,.int .i64 p,.int .i64 q,.slice lo ln lc] 51)) j u hu;simpa using this) (by simp [Value.oneCell']) (by decide) (by unfold maxLen;omega) (by omega) (by simp;omega) (w1.heap.size + 1 + 1) (by simp) ?_
      intro g cap2 w2 o2 g2 hg2 _
      have hbx:=(hBX.below (Bl.alloc (Bl.refl _) (.cells #[.int .i64 op,.int .i64 p,.int .i64 q,.slice lo ln lc] 51))).c0
      have e0:w2.cell? ⟨w1.heap.size,0,none⟩=some (.int .i64 op):=g2.cell hbx (fun e=>by have:=(HOLD.out _ e.symm).2;simp only at this;omega)
      have HO2:=hid (qB7.step HPS.out HIN.out ⟨op,p,q,lo,ln,lc,l⟩ HRL.out (fun ad ha=>⟨by have:=(HFAR.out ad ha).2;simp;omega,fun e=>by have:=(HOLD.out _ e).2;have:=(HFAR.out ad ha).1;omega,by have:=(HFAR.out ad ha).1;omega⟩) (by rw [HPL.out];exact o2) g2 hg2 (by simp))
      have HB2:=hid (xB HB1.out (Bl.alloc (Bl.alloc (Bl.refl w1) (.cells #[.int .i64 op,.int .i64 p,.int .i64 q,.slice lo ln lc] 51)) (.cells #[.int .i64 op,.int .i64 p,.int .i64 q,.slice lo ln lc] 51)) g2 (fun b hb=>(HOLD.out b hb).1) (by omega))
      clear o2 g2 hg2 hbx HROW HIN HPS hBX hi0 hz0 hz1 hz2
      go_wp2_with fail
      refine (qSx op tn HTN.out w2).mono ?_
      rintro e w' ⟨rfl,rfl⟩
      go_wp2_with fail
      go_roundw
      case rel =>
       refine ⟨acc ++ [⟨op,p,q,l⟩],at' + k,dd + tn,f,by go_num,by go_num,hkm,by simp;rw [<- HAN.out];omega,by simp;rw [<- HAN.out];omega,by simp;rw [<- HAN.out];omega,by simp;rw [<- HAN.out];omega,?_,?_,?_,HB2.out⟩
       ·have hq:=HR3.out
        simp only [HTN.out] at hq;exact hid hq
       ·have:=HO2.out
        rw [HPL.out] at this;exact this
       ·intro I hI
        rcases List.mem_append.1 hI with hI | hI
        ·exact HOK.out I hI
        ·simp at hI;rw [hI];exact HKI.out
      case measure=>simp [intOf];omega
  ·have he':(er != 0)=true:=by simp [he]
   have hr2:=HR2.out;rw [qMu HG.out he] at hr2;have HR3:=hid hr2;clear hr2 he;go_wp2_with fail;refine bodyPost_ret (v:=.tuple #[.slice none 0 0,.int .i64 ((0:Nat):Int),.int .i64 er]) (by simp [results,Tryz.results204,go_sem]) rfl ?_;rw [HR3.out];exact ⟨_,rfl,qB7.nil _ _,(fun _ h=>by cases h),by simp,Below.alloc HB1.out (by omega) _⟩
noncomputable def getB (xs:List Int):List Ins × Nat × Int :=
 if (readB 301 xs [] 0 0).2.2=0 then (if (qC0 (vP (readB 301 xs [] 0 0).1)).isSome=true then readB 301 xs [] 0 0 else ([],0,1)) else ([],0,(readB 301 xs [] 0 0).2.2)
theorem qSz (bo:Option Addr) (m bc:Nat) (xs:List Int) (w:World) (hr:Rd .u8 w bo m bc xs) :
    Calls Tryz.prog 194 #[.slice bo m bc] w (qV0 (getB xs) w):=by
 obtain ⟨⟨l,n,er⟩,hres⟩:∃ r,readB 301 xs [] 0 0=r:=⟨_,rfl⟩
 obtain ⟨⟨l',n',er'⟩,hg⟩:∃ r,getB xs=r:=⟨_,rfl⟩
 rw [hg]
 unfold getB at hg
 have hrd:=qSy bo m bc xs w hr
 rw [hres] at hrd hg
 simp only at hg
 have HRD:=hid hrd
 clear hrd hres hr
 by_cases he:er=0
 ·subst he
  simp only [if_pos] at hg
  obtain ⟨o,ho⟩:∃ o,o=qC0 (vP l):=⟨_,rfl⟩
  rw [<- ho] at hg;have HO:=hid ho;have HG:=hid hg;clear ho hg;go_enter Tryz.func194,Tryz.ntmps194;go_wp2_with fail;refine HRD.out.mono ?_;rintro e w1 ⟨v,rfl,hown,hok,hlen,hb⟩;simp only at hown hok hlen ⊢;have HOWN:=hid hown;have HB:=hid hb;have HOK:=hid hok;obtain ⟨ao,cap,rfl,hrp⟩:=hown.rd hok;have HLEN:=hid hlen;have hm:=qJa _ ao l.length cap l w1 hrp;rw [<- HO.out] at hm;have HM:=hid hm
  obtain ⟨ll,hll⟩:∃ ll,ll=l.length:=⟨_,rfl⟩
  rw [<- hll] at HM HOWN hlen ⊢;clear hown hok hb hrp hm hll HRD HO;go_wp2_with fail;refine HM.out.mono ?_;rintro e w2 ⟨v2,rfl,_,hb2⟩;have HB2:=hid (Bl.step HB.out hb2);have HO2:=hid (HOWN.out.below hb2 (qW8 _));clear hb2
  cases o with
  | none =>
    simp only [Option.isSome_none];go_wp2_with fail;refine bodyPost_ret (v:=.tuple #[.slice none 0 0,.int .i64 ((0:Nat):Int),.int .i64 1]) (by simp [results,Tryz.results194,go_sem]) rfl ?_;have:=HG.out;simp at this;obtain ⟨rfl,rfl,rfl⟩:=this;exact ⟨_,rfl,qB7.nil _ _,(fun _ h=>by cases h),by simp,HB2.out⟩
  | some bl =>
    simp only [Option.isSome_some];go_wp2_with fail;refine bodyPost_ret (v:=.tuple #[.slice ao ll cap,.int .i64 (n:Int),.int .i64 0]) (by simp [results,Tryz.results194,go_sem]) rfl ?_;have:=HG.out;simp at this;obtain ⟨rfl,rfl,rfl⟩:=this;exact ⟨_,rfl,HO2.out,HOK.out,HLEN.out,HB2.out⟩
 ·have he':(er != 0)=true:=by simp [he]
  rw [if_neg he] at hg;have HG:=hid hg;clear hg he;go_enter Tryz.func194,Tryz.ntmps194;go_wp2_with fail;refine HRD.out.mono ?_;rintro e w1 ⟨v,rfl,hown,hok,hlen,hb⟩;have HB:=hid hb;clear hown hok hlen hb HRD;simp only;go_wp2_with fail;refine bodyPost_ret (v:=.tuple #[.slice none 0 0,.int .i64 ((0:Nat):Int),.int .i64 er]) (by simp [results,Tryz.results194,go_sem]) rfl ?_;have:=HG.out;simp only [Prod.mk.injEq] at this;obtain ⟨rfl,rfl,rfl⟩:=this;exact ⟨_,rfl,qB7.nil _ _,(fun _ h=>by cases h),by simp,HB.out⟩
open Go.RowKit
theorem qKn {k:Nat} {x:Int} {s s':Ns} (h:jR k x s=some s'):(s'.op.length:Int)=s.op.length + qDu x /\ (x=11 -> 0 < s.op.length):=by
 unfold jR at h;unfold qDu;by_cases hb:xN x=true
 ·rw [if_pos hb] at h ⊢
  by_cases h40:s.op.length=40
  ·rw [if_pos h40] at h;cases h
  ·rw [if_neg h40] at h
   cases h
   refine ⟨by simp,fun h=>?_⟩;subst h;simp [xN] at hb
 ·rw [if_neg hb] at h ⊢
  by_cases h5:x=5
  ·rw [if_pos h5] at h
   subst h5
   match hop:s.op with
   | []=>rw [hop] at h;cases h
   | (k0,false) :: r=>rw [hop] at h;cases h
   | (k0,true) :: r=>rw [hop] at h;cases h;simp
  ·rw [if_neg h5] at h
   by_cases h11:x=11
   ·rw [if_pos h11] at h ⊢
    match hop:s.op with
    | []=>rw [hop] at h;cases h
    | (k0,f0) :: r=>rw [hop] at h;cases h;simp;omega
   ·rw [if_neg h11] at h ⊢
    cases h
    exact ⟨by simp,fun h=>absurd h h11⟩
theorem qMv (a b:List Ins):jN (a ++ b)=jN a ++ jN b:=by simp [jN]
theorem qJc (l:List Ins) (rest:List Int) (bl:List Bk) (hF:Fit (vP l) bl) (hm:∀ I ∈ l,zL I=true) (ho:∀ I ∈ l,okI I):∀ (rem acc:List Ins) (s:Ns) (f:Nat),l=acc ++ rem -> qCf 0 (vP acc) j8=some s -> f + acc.length=301 ->
    readB f (jN l ++ [11] ++ rest) acc (jN acc).length s.op.length=(l,(jN l).length + 1,0)
 | [],acc,s,f,hl,hs,hf=>by
   have hl300:l.length <= 300:=by have:=hF.len;rwa [j3] at this
   have hal:acc=l:=by rw [hl,List.append_nil]
   subst hal
   have hs0:s.op.length=0:=by
    have:=hF.run;rw [hs] at this
    cases this
    rfl
   obtain ⟨g,rfl⟩:∃ g,f=g + 1:=⟨f - 1,by omega⟩
   have hd:(jN acc ++ [11] ++ rest).drop (jN acc).length=uW 11 0 0 [] ++ rest:=by
    rw [qXe,List.drop_left];rfl
   have hg:getI ((jN acc ++ [11] ++ rest).drop (jN acc).length)=(⟨11,0,0,[]⟩,1,0):=by
    rw [hd,qA5 11 0 0 [] rest (by decide) (by decide)];rfl
   rw [qGg hg rfl (by rw [hs0];rfl)]
 | I :: rem,acc,s,f,hl,hs,hf=>by
   have hl300:l.length <= 300:=by have:=hF.len;rwa [j3] at this
   have hlen:acc.length < l.length:=by rw [hl];simp
   have hI:I ∈ l:=by rw [hl];simp
   obtain ⟨g,rfl⟩:∃ g,f=g + 1:=⟨f - 1,by omega⟩
   have hd:(jN l ++ [11] ++ rest).drop (jN acc).length=qFe I ++ (jN rem ++ [11] ++ rest):=by
    rw [hl,qMv,qXe,qXe,List.drop_left];simp [jN]
   have hg:getI ((jN l ++ [11] ++ rest).drop (jN acc).length)=(I,(qFe I).length,0):=by
    rw [hd];exact qA5 I.op I.a I.b I.l _ (hm I hI) (ho I hI)
   have htk:(vP l).take acc.length=vP acc:=by rw [qGc,hl,List.take_left]
   have hrn:=qEv (xs:=vP l) (k:=acc.length) (by rw [j3];exact hlen) (by rw [htk];exact hs)
   have hop:(vP l).getD acc.length 0=I.op:=by
    rw [qA0 _ _ hlen,hl];simp [List.getD]
   have htk2:(vP l).take (acc.length + 1)=vP (acc ++ [I]):=by
    rw [qGc,hl,show acc ++ I :: rem=(acc ++ [I]) ++ rem by simp,List.take_left' (by simp)]
   rw [hop,htk2] at hrn
   cases hst:jR acc.length I.op s with
   | none =>
     rw [hst,<- htk2] at hrn;have:=qGb hrn;rw [hF.run] at this
     cases this
   | some s' =>
     rw [hst] at hrn;obtain ⟨d1,d2⟩:=qKn hst;have hne:¬ (I.op=11 /\ (s.op.length:Int)=0):=fun ⟨h1,h2⟩=>by have:=d2 h1;omega
     rw [qJb hg hne (by omega),<- d1];have ha:(jN acc).length + (qFe I).length=(jN (acc ++ [I])).length:=by rw [qBq,qW7]
     rw [ha];exact qJc l rest bl hF hm ho rem (acc ++ [I]) s' g (by rw [hl];simp) hrn (by simp;omega)
theorem qPm {l:List Ins} (rest:List Int) {bl:List Bk} (hF:qC0 (vP l)=some bl) (hm:∀ I ∈ l,zL I=true) (ho:∀ I ∈ l,okI I):getB (jN l ++ [11] ++ rest)=(l,(jN l).length + 1,0):=by
 have h:=qJc l rest bl (qI9.1 hF) hm ho l [] j8 301 rfl rfl rfl;have h':readB 301 (jN l ++ [11] ++ rest) [] 0 0=(l,(jN l).length + 1,0):=h;unfold getB;rw [h'];simp [hF]
open Go.RowKit
theorem qJd (is:List Ins) (k n:Nat) (hk:k <= n) (hn:n <= 1000) (hm:∀ I ∈ is,zL I=true):(jN (is.take k)).length <= 20001000:=by
 have h1:=qA6 (is.take k) (fun I h=>hm I (qXs h));have h2:(is.take k).length <= k:=by rw [qXu];omega
 have h3:(is.take k).length * 20001 <= 1000 * 20001:=qXl _ (by omega);omega
theorem qKo (bo:Option Addr) (m bc:Nat) (bs:List Int) (C:Addr -> Prop) (ao:Option Addr) (n cap:Nat) (is:List Ins) (w:World) (hbs:Rd .u8 w bo m bc bs) (hr:RdP w C ao n cap is) (hn:n <= 1000) (hm:m <= 1000000000) (hmay:∀ I ∈ is,zL I=true) :
    Calls Tryz.prog 149 #[.slice bo m bc,.slice ao n cap] w fun e w'=>∃ v,e=.returned v /\ Own 5 .u8 w.heap.size w' v (bs ++ jN is ++ [11]) /\ Below w.heap.size w w':=by
 have Hr:=hid hr
 have Hx:=hid hr.len
 have HM:=hid hmay
 have Hbs:=hid hbs
 have hbl:bs.length <= 1000000000:=by rw [hbs.len];exact hm
 clear hr hmay hbs
 go_enter Tryz.func149,Tryz.ntmps149
 go_wp2_with (first
  | (at_builtin;refine qA rfl (.const (.slice none 0 0)) (.tmp 8) 37 rfl 5 .u8 w.heap.size 1 Tryz.underlying37 qG _ [] rfl (Own.nil _ _ _ _) bo m bc bs rfl Hbs.out (by simp;omega) (by simp;omega) (qW8 _) ?_;intro v1 w1 o1 b1 _;have HO1:=hid o1;have HB1:=hid b1;clear o1 b1)
  | fail)
 simp only [List.nil_append] at HO1
 go_loopw [5,12] (fun v i wr=>∃ k:Nat,k <= n /\ i=.int .i64 k /\ Own 5 .u8 w.heap.size wr v (bs ++ jN (is.take k)) /\ Below w.heap.size w wr) (fun _ i _=>n - (intOf i).toNat)
 case atStart=>exact ⟨0,qXf _,rfl,by simpa [jN] using HO1.out,HB1.out⟩
 case round =>
  obtain ⟨k,hkn,rfl,ho,hb⟩:=hrel;have HO:=hid ho;have HB:=hid hb;have hsz:=hb.size;clear ho hb HO1 HB1;have hel:=qJd is k n hkn hn HM.out
  obtain ⟨ys,hys⟩:∃ ys,ys=bs ++ jN (is.take k):=⟨_,rfl⟩
  have hyl:ys.length <= 1020001000:=by rw [hys,qW7];omega
  rw [<- hys] at HO;have HYS:=hid hys;clear hys hel;obtain ⟨yo,yc,rfl,hry⟩:=HO.out.rd;have HRY:=hid hry;clear hry;by_cases hk:k < n
  ·obtain ⟨b,off,lo,ln,lc,rfl,c0,c1,c2,c3,hrl,_⟩:=(Hr.out.below HB.out).cell k hk
   have hs:=qFc (is:=is) (k:=k) (by rw [Hx.out];exact hk);have hok:=Hr.out.ok k hk
   have hmay:zL (is.getD k default)=true:=by
    refine HM.out _ ?_;simp only [List.getD,qW6 (show k < is.length by rw [Hx.out];exact hk),Option.getD_some];exact List.getElem_mem _
   obtain ⟨⟨op,p,q,l⟩,hI⟩:∃ I,I=is.getD k default:=⟨_,rfl⟩
   rw [<- hI] at c0 c1 c2 hrl hs hok hmay;simp only at c0 c1 c2 hrl;have hp:-9223372036854775808 <= p /\ p <= 9223372036854775807:=hok;have Hs:=hid hs;have Hrl:=hid hrl;have HT:Hid (uN op p q l=true):=hid hmay;have hpl:=xJ (sh op) p q l (qXk (qE6 HT.out) (by decide));clear hI hs hrl hok hmay;go_wp2_with fail;refine (qRp none 0 0 [] op p q lo ln lc l _ HT.out hp (Rd.empty _ _) (by decide) (Hrl.out.below (Bl.alloc (Bl.refl wr) _))).mono ?_;rintro e w2 ⟨v,rfl,hv,hb⟩;rw [List.nil_append] at hv
   obtain ⟨el,hel⟩:∃ el,el=uW op p q l:=⟨_,rfl⟩
   have hell:el.length <= 20001:=by rw [hel];simp [uW];omega
   rw [<- hel] at hv;have HEL:=hid hel;obtain ⟨vo,vc,rfl,hrv⟩:=hv.rd;have HRV:=hid hrv;have hbb:=Bl.step (Bl.alloc (Bl.refl wr) (.cells #[.int .i64 op,.int .i64 p,.int .i64 q,.slice lo ln lc] 51)) hb;have HO2:=hid (HO.out.below hbb (qW8 _));have HB2:=hid (HB.out.trans (hbb.mono hsz));have hsz2:=HB2.out.size;clear hv hb hel hrv hbb HRY HO c0 c1 c2 c3
   go_wp2_with (first
    | (at_builtin;refine qA rfl (.tmp 16) (.tmp 18) 37 rfl 5 .u8 w.heap.size 1 Tryz.underlying37 qG _ ys rfl HO2.out vo _ vc el rfl HRV.out (by omega) (by omega) hsz2 ?_;intro v3 w3 o3 b3 _;have HO3:=hid o3;have HB3:=hid b3;clear o3 b3)
    | fail)
   go_roundw
   case rel =>
    refine ⟨k + 1,by omega,by go_num,?_,HB2.out.trans HB3.out⟩;rw [Hs.out,qBq,<- qXe,<- HYS.out];have:=HO3.out;rw [HEL.out] at this;exact this
   case measure=>simp [intOf];omega
  ·have hkn':k=n:=by omega
   subst hkn';rw [qW9 (by rw [Hx.out];exact qW8 _)] at HYS
   go_wp2_with (first
    | (at_builtin;refine qA rfl (.tmp 21) (.tmp 22) 37 rfl 5 .u8 w.heap.size 1 Tryz.underlying37 qG _ ys rfl (HO.out.alloc _) (some ⟨wr.heap.size,0,none⟩) 1 1 [11] rfl (Rd.built _ _ _ _ (by decide)) (by omega) (by omega) (by simp;omega) ?_;intro v3 w3 o3 b3 _;have HO3:=hid o3;have HB3:=hid b3;clear o3 b3)
    | fail)
   go_ret;refine ⟨_,rfl,?_,(Below.alloc HB.out hsz _).trans HB3.out⟩;rw [<- HYS.out];exact HO3.out
theorem qEw (C:Addr -> Prop) (ao:Option Addr) (n cap:Nat) (is:List Ins) (w:World) (hr:RdP w C ao n cap is) (hn:n <= 1000) (hmay:∀ I ∈ is,zL I=true) :
    Calls Tryz.prog 128 #[.slice ao n cap] w fun e w'=>∃ v,e=.returned v /\ Own 5 .u8 w.heap.size w' v (jN is ++ [11]) /\ Below w.heap.size w w':=by
 have Hr:=hid hr
 have Hx:=hid hr.len
 have HM:=hid hmay
 clear hr hmay
 go_enter Tryz.func128,Tryz.ntmps128
 go_wp2_with fail
 go_loopw [3,4] (fun v i wr=>∃ k:Nat,k <= n /\ i=.int .i64 k /\ Own 5 .u8 w.heap.size wr v (jN (is.take k)) /\ Below w.heap.size w wr) (fun _ i _=>n - (intOf i).toNat)
 case atStart=>exact ⟨0,qXf _,rfl,by simpa [jN] using Own.nil _ _ _ _,qXh _ _⟩
 case round =>
  obtain ⟨k,hkn,rfl,ho,hb⟩:=hrel;have HO:=hid ho;have HB:=hid hb;have hsz:=hb.size;clear ho hb;have hel:=qJd is k n hkn hn HM.out
  obtain ⟨ys,hys⟩:∃ ys,ys=jN (is.take k):=⟨_,rfl⟩
  rw [<- hys] at HO hel;have HYS:=hid hys;clear hys;obtain ⟨yo,yc,rfl,hry⟩:=HO.out.rd;have HRY:=hid hry;clear hry;by_cases hk:k < n
  ·obtain ⟨b,off,lo,ln,lc,rfl,c0,c1,c2,c3,hrl,_⟩:=(Hr.out.below HB.out).cell k hk
   have hs:=qFc (is:=is) (k:=k) (by rw [Hx.out];exact hk);have hok:=Hr.out.ok k hk
   have hmay:zL (is.getD k default)=true:=by
    refine HM.out _ ?_;simp only [List.getD,qW6 (show k < is.length by rw [Hx.out];exact hk),Option.getD_some];exact List.getElem_mem _
   obtain ⟨⟨op,p,q,l⟩,hI⟩:∃ I,I=is.getD k default:=⟨_,rfl⟩
   rw [<- hI] at c0 c1 c2 hrl hs hok hmay;simp only at c0 c1 c2 hrl;have hp:-9223372036854775808 <= p /\ p <= 9223372036854775807:=hok;have Hs:=hid hs;have Hrl:=hid hrl;have HT:Hid (uN op p q l=true):=hid hmay;have hpl:=xJ (sh op) p q l (qXk (qE6 HT.out) (by decide));clear hI hs hrl hok hmay;go_wp2_with fail;refine (qGl op p q lo ln lc l _ HT.out hp Hrl.out).mono ?_;rintro e w2 ⟨v,rfl,hv,hb⟩
   obtain ⟨el,hel'⟩:∃ el,el=uW op p q l:=⟨_,rfl⟩
   have hell:el.length <= 20001:=by rw [hel'];simp [uW];omega
   rw [<- hel'] at hv;have HEL:=hid hel';obtain ⟨vo,vc,rfl,hrv⟩:=hv.rd;have HRV:=hid hrv;have HO2:=hid (HO.out.below hb (qW8 _));have HB2:=hid (HB.out.trans (hb.mono hsz));have hsz2:=HB2.out.size;clear hv hb hel' hrv HRY HO c0 c1 c2 c3
   go_wp2_with (first
    | (at_builtin;refine qA rfl (.tmp 11) (.tmp 16) 37 rfl 5 .u8 w.heap.size 1 Tryz.underlying37 qG _ ys rfl HO2.out vo _ vc el rfl HRV.out (by omega) (by omega) hsz2 ?_;intro v3 w3 o3 b3 _;have HO3:=hid o3;have HB3:=hid b3;clear o3 b3)
    | fail)
   go_roundw
   case rel =>
    refine ⟨k + 1,by omega,by go_num,?_,HB2.out.trans HB3.out⟩;rw [Hs.out,qBq,<- HYS.out];have:=HO3.out;rw [HEL.out] at this;exact this
   case measure=>simp [intOf];omega
  ·have hkn':k=n:=by omega
   subst hkn';rw [qW9 (by rw [Hx.out];exact qW8 _)] at HYS
   go_wp2_with (first
    | (at_builtin;refine qA rfl (.tmp 18) (.tmp 19) 37 rfl 5 .u8 w.heap.size 1 Tryz.underlying37 qG _ ys rfl (HO.out.alloc _) (some ⟨wr.heap.size,0,none⟩) 1 1 [11] rfl (Rd.built _ _ _ _ (by decide)) (by omega) (by omega) (by simp;omega) ?_;intro v3 w3 o3 b3 _;have HO3:=hid o3;have HB3:=hid b3;clear o3 b3)
    | fail)
   go_ret;refine ⟨_,rfl,?_,(Below.alloc HB.out hsz _).trans HB3.out⟩;rw [<- HYS.out];exact HO3.out
end Go.Proofs.YtbkofpljchkkaaaGreat
