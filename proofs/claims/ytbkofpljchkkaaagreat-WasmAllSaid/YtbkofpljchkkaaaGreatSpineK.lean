/- Words: SpineK. -/
import Derived.Test.YtbkofpljchkkaaaGreatSpine
namespace Go.Proofs.YtbkofpljchkkaaaGreat
open Go.RowKit
def Kp (kp:List (Nat × Obj)) (w:World):Prop:=∀ p ∈ kp,w.heap[p.1]?=some p.2
def KpT (E:TypeId) (kp:List (Nat × Obj)):Prop:=∀ p ∈ kp,∀ cur f,p.2 ≠ .cells cur E f
theorem Own.block_is {E:TypeId} {k:IntKind} {base:Nat} {w:World} {v:Value} {xs:List Int} (h:Own E k base w v xs) {b:Nat} (hb:v.ownBlock=some b):∃ cur,w.heap[b]?=some (.cells cur E (0,0)) /\ xs.length <= cur.size:=by
 obtain ⟨_,⟨rfl,_⟩ | ⟨g,cap,cur,rfl,_,hg,h1,_,h3,_⟩⟩:=h.row
 ·cases hb
 ·cases hb
  exact ⟨cur,hg,by omega⟩
theorem Kp.lt {kp:List (Nat × Obj)} {w:World} (h:Kp kp w) {p:Nat × Obj} (hp:p ∈ kp):p.1 < w.heap.size:=(qXw.1 (h p hp)).1
theorem Kp.below {kp:List (Nat × Obj)} {w w':World} (h:Kp kp w) (hb:Below w.heap.size w w'):Kp kp w':=fun p hp=>(hb.block p.1 (h.lt hp)).trans (h p hp)
def qTi (E:TypeId) (z z0:Nat) (xs:List Int) (w w':World):Prop:=Below z w w' /\ ∃ v,Own E .u8 z w v xs /\ ((∀ b,v.ownBlock=some b -> b < z0) ∨ 2 <= xs.length) /\ ∀ b,v.ownBlock ≠ some b -> b < w.heap.size -> w'.heap[b]?=w.heap[b]?
theorem Kp.app {kp:List (Nat × Obj)} {w w':World} {E:TypeId} {z z0:Nat} {xs:List Int} (h:Kp kp w) (hk:KpT E kp) (ht:qTi E z z0 xs w w'):Kp kp w':=by
 obtain ⟨_,v,ho,_,hs⟩:=ht;intro p hp;refine (hs p.1 ?_ (h.lt hp)).trans (h p hp);intro hb;obtain ⟨cur,hc,_⟩:=Own.block_is ho hb;rw [h p hp] at hc;exact hk p hp cur (0,0) (by simpa using hc)
def qJj (E:TypeId) (z z0:Nat) (apps:List (Nat × List Int)) (i:Nat):World -> World -> Prop :=
 match apps.find? (fun p=>p.1 == i) with
 | some p=>qTi E z z0 p.2
 | none=>u4
def qTj:Fc -> Bool
 | .is _=>true
 | .lit _ _=>true
 | _=>false
def qVc (ops:Array Oper) (ks:List Fc) (apps:List (Nat × List Int)):Bool :=
 apps.all fun p=>(List.range ks.length).all fun j=>!qRk ops p.1 j || (match ks[j]? with | some c=>qTj c | none=>true)
def qDe (z0:Nat):List Fc -> Prop
 | []=>True
 | .lit z1 _ :: r=>z1=z0 /\ qDe z0 r
 | _ :: r=>qDe z0 r
theorem qDe.at {z0:Nat}:∀ {l:List Fc},qDe z0 l -> ∀ c ∈ l,∀ z1 x,c=.lit z1 x -> z1=z0
 | [],_,c,h,_,_,_=>by cases h
 | a :: r,h,c,hc,z1,x,e=>by
   subst e;rcases List.mem_cons.1 hc with e | hc
   ·subst e;exact h.1
   ·exact qDe.at (l:=r) (by cases a <;> first | exact h | exact h.2) _ hc z1 x rfl
theorem qTk {E:TypeId} {z z0:Nat} {x:Int} {xs:List Int} {v:Value} {w w':World} (h:fcF E z (.lit z0 x) v w) (ht:qTi E z z0 xs w w'):fcF E z (.lit z0 x) v w':=by
 obtain ⟨p,e,hz,hp,hx⟩:=h;obtain ⟨_,v2,ho,hd,hs⟩:=ht;refine ⟨p,e,hz,(hs p ?_ (qXw.1 hp).1).trans hp,hx⟩;intro hb;rcases hd with hd | hd
 ·have:=hd p hb;omega
 ·obtain ⟨cur,hc,hl⟩:=Own.block_is ho hb
  rw [hp] at hc;simp only [Option.some.injEq,Obj.cells.injEq] at hc;rw [<- hc.1] at hl;simp at hl;omega
section
variable {P:Program} {ops:Array Oper} {Q:Exit -> Act -> World -> Prop} {C:World -> Prop} {T:Nat -> World -> World -> Prop} {Fl Gl:List (Value -> World -> Prop)} {a0:Act} {i0:Nat} {F0:World -> Prop}
theorem qCe {id:Nat} {w0:World} {E:TypeId} {z:Nat} (hm:P.follows .mixedOrders=true) (i0:Nat) (v0:Value) (xs0:List Int) (hv0:Own E .u8 z w0 v0 xs0) (hz:z <= w0.heap.size) (kp:List (Nat × Obj)) (hkp:Kp kp w0) (hkt:KpT E kp) (ks:List Fc) (res:List Int) (apps:List (Nat × List Int))
    (hn:ks.length + 1=ops.size) (hst:qDt ops a0.tmps.size=true) (hok:qVc ops (ks ++ [Fc.own res]) apps=true) (hlz:qDe w0.heap.size ks) (hla:qJ3 ops ks.length apps=true) (hfi:qFu ops i0 apps=true)
    (hop:∀ i,i < ops.size -> zB P ops Q (fun w=>(Below z w0 w /\ Kp kp w) /\ (i=i0 -> Own E .u8 z w v0 xs0)) (qJj E z w0.heap.size apps i) (msk ops i ((ks ++ [Fc.own res]).map (fcF E z))) a0 i)
    (hend:∀ w,Below z w0 w /\ Kp kp w -> xV Q w (ks.map fcG ++ [fcF E z (.own res)]) (ops.toList.map (·.dst)) a0):(Code.region id ops true).wp P Q a0 w0:=by
 have hCz:∀ w,Below z w0 w /\ Kp kp w -> z <= w.heap.size:=fun w h=>qXk hz h.1.size
 have hlen:(ks.map fcG).length=ks.length:=by simp
 have gat:∀ j,j < ks.length -> ∃ c,ks[j]?=some c /\ qN (ks.map fcG ++ [fcF E z (.own res)]) j=fcG c:=fun j hj=>by
  refine ⟨ks[j],qW6 hj,?_⟩;rw [qEj (by simpa using hj)];exact jD (qW6 hj)
 have glast:qN (ks.map fcG ++ [fcF E z (.own res)]) ks.length=fcF E z (.own res):=by
  have:=qDr (l:=ks.map fcG) (f:=fcF E z (.own res))
  rwa [hlen] at this
 have fat:∀ j,j < ks.length -> ∀ c,ks[j]?=some c -> qN ((ks ++ [Fc.own res]).map (fcF E z)) j=fcF E z c:=fun j hj c hc =>
  jD (by rw [List.getElem?_append_left hj];exact hc)
 have flast:qN ((ks ++ [Fc.own res]).map (fcF E z)) ks.length=fcF E z (.own res):=jD (by simp)
 refine uJ (P:=P) (Q:=Q) hm (fun w=>Below z w0 w /\ Kp kp w) (qJj E z w0.heap.size apps) ((ks ++ [Fc.own res]).map (fcF E z)) (ks.map fcG ++ [fcF E z (.own res)]) (by simp;omega) hst i0 (fun w=>Own E .u8 z w v0 xs0) hv0.drew ?_ ⟨(qXh _ _).drew,hkp⟩ ?_ ?_ ?_ ?_ hop hend
 ·intro i hi w w' hc ht hf
  unfold qJj at ht
  cases hp:apps.find? (fun p=>p.1 == i) with
  | some p =>
    exfalso;have h1:=List.find?_some hp;have h2:=List.mem_of_find?_eq_some hp;have h3:=qXb.1 hfi p h2;simp only [beq_iff_eq] at h1;rw [h1] at h3;simp only [qXi,bne_iff_ne,ne_eq,Bool.not_eq_true',Bool.or_eq_true,beq_iff_eq] at hi h3;rcases h3 with h3 | h3
    ·exact hi.1 h3
    ·rw [hi.2] at h3;cases h3
  | none=>rw [hp] at ht;exact hf.below ht (qW8 _)
 ·intro i w w' hc ht
  unfold qJj at ht
  cases hp:apps.find? (fun p=>p.1 == i) with
  | some p=>rw [hp] at ht;exact ⟨hc.1.trans ht.1,hc.2.app hkt ht⟩
  | none=>rw [hp] at ht;exact ⟨hc.1.trans (Below.mono ht (hCz w hc)),hc.2.below ht⟩
 ·intro i j hij w w' v hc ht hg
  rcases Nat.lt_trichotomy j ks.length with h | h | h
  ·obtain ⟨c,_,e⟩:=gat j h
   rw [e] at hg ⊢;exact qHp c v w w' hg
  ·subst h
   rw [glast] at hg ⊢;unfold qJj at ht
   cases hp:apps.find? (fun p=>p.1 == i) with
   | some p =>
     exfalso;have h1:=List.find?_some hp;have h2:=List.mem_of_find?_eq_some hp;have h3:=qXb.1 hla p h2;simp only [beq_iff_eq] at h1;rw [h1] at h3;simp [h3] at hij
   | none=>rw [hp] at ht;exact qBj E z _ v w w' hg ht
  ·rw [xH (by simp;omega)]
   trivial
 ·intro j v w hf
  rcases Nat.lt_trichotomy j ks.length with h | h | h
  ·obtain ⟨c,hc,e⟩:=gat j h
   rw [fat j h c hc] at hf;rw [e];exact qVr E z c v w hf
  ·subst h
   rw [flast] at hf;rw [glast];exact hf
  ·rw [xH (by simp;omega)]
   trivial
 ·intro i j hk w w' v hc ht hf
  rcases Nat.lt_or_ge j (ks ++ [Fc.own res]).length with h | h
  ·have e:qN ((ks ++ [Fc.own res]).map (fcF E z)) j=fcF E z ((ks ++ [Fc.own res])[j]):=jD (qW6 h)
   rw [e] at hf ⊢;unfold qJj at ht
   cases hp:apps.find? (fun p=>p.1 == i) with
   | some p =>
     rw [hp] at ht;have h1:=List.find?_some hp;have h2:=List.mem_of_find?_eq_some hp;simp only [beq_iff_eq] at h1;have h3:=qXb.1 (qXb.1 hok p h2) j (List.mem_range.2 h);rw [h1,hk,qW6 h] at h3;simp only [Bool.not_true,Bool.false_or] at h3;have hmem:(ks ++ [Fc.own res])[j] ∈ ks ++ [Fc.own res]:=List.getElem_mem h;generalize (ks ++ [Fc.own res])[j]=c at hf h3 hmem
     cases c with
     | is x=>exact hf
     | rd xs=>cases h3
     | own xs=>cases h3
     | lit z1 x =>
       have hz1:z1=w0.heap.size:=by
        rcases List.mem_append.1 hmem with hm | hm
        ·exact hlz.at _ hm z1 x rfl
        ·rw [List.mem_singleton] at hm;cases hm
       subst hz1;exact qTk hf ht
   | none=>rw [hp] at ht;exact qBj E z _ v w w' hf ht
  ·rw [xH (by simpa using h)]
   trivial
theorem vI {id:Nat} {w0:World} {E:TypeId} {z:Nat} (hm:P.follows .mixedOrders=true) (i0:Nat) (v0:Value) (xs0:List Int) (hv0:Own E .u8 z w0 v0 xs0) (hz:z <= w0.heap.size) (kp:List (Nat × Obj)) (hkp:Kp kp w0) (hkt:KpT E kp) (ks:List Fc) (res:List Int) (apps:List (Nat × List Int)) (l:List Nat)
    (hn:ks.length + 1=ops.size) (hst:qDt ops a0.tmps.size=true) (hl:l=List.range ops.size)
    (hop:qEk P ops Q (fun w=>Below z w0 w /\ Kp kp w) i0 (fun w=>Own E .u8 z w v0 xs0) (qJj E z w0.heap.size apps) ((ks ++ [Fc.own res]).map (fcF E z)) a0 l) (hok:qVc ops (ks ++ [Fc.own res]) apps=true) (hlz:qDe w0.heap.size ks) (hla:qJ3 ops ks.length apps=true) (hfi:qFu ops i0 apps=true)
    (hend:∀ w,Below z w0 w /\ Kp kp w -> xV Q w (ks.map fcG ++ [fcF E z (.own res)]) (ops.toList.map (·.dst)) a0):(Code.region id ops true).wp P Q a0 w0 :=
 qCe hm i0 v0 xs0 hv0 hz kp hkp hkt ks res apps hn hst hok hlz hla hfi (fun i hi=>hop.at i (by rw [hl];exact List.mem_range.2 hi)) hend
theorem jJ {E:TypeId} {z z0:Nat} {apps:List (Nat × List Int)} {i:Nat} (h:(apps.find? (fun p=>p.1 == i))=none) (r:qEs P ops C Fl a0 i):zB P ops Q C (qJj E z z0 apps i) Fl a0 i:=by
 obtain ⟨o,d,F,gd,dl,fl,h1,h2,h3,h4,h5,h6,h7⟩:=r;have e:qJj E z z0 apps i=u4:=by unfold qJj;rw [h]
 rw [e];exact qCt.rule h6.to h1 h2 h3 h4 h5 h7
end
theorem qBr {E:TypeId} {z z0:Nat} {apps:List (Nat × List Int)} {i:Nat} {xs:List Int} (h:apps.find? (fun p=>p.1 == i)=some (i,xs)) (h2:2 <= xs.length):∀ w w',qUm (fcF E z (.own xs)) z w w' -> qJj E z z0 apps i w w':=by
 rintro w w' ⟨hb,v,ho,hs⟩;unfold qJj;rw [h];exact ⟨hb,v,ho,.inr h2,hs⟩
theorem qFf {E:TypeId} {z z0:Nat} {apps:List (Nat × List Int)} {i:Nat} {xs:List Int} {v0:Value} (h:apps.find? (fun p=>p.1 == i)=some (i,xs)) (h2:∀ b,v0.ownBlock=some b -> b < z0):∀ w w',qUm (fun v w=>v=v0 /\ Own E .u8 z w v xs) z w w' -> qJj E z z0 apps i w w':=by
 rintro w w' ⟨hb,v,⟨rfl,ho⟩,hs⟩;unfold qJj;rw [h];exact ⟨hb,v,ho,.inl h2,hs⟩
end Go.Proofs.YtbkofpljchkkaaaGreat
