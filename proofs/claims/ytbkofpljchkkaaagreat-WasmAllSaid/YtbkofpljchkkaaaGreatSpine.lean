/- Words: Spine. -/
import Derived.Test.YtbkofpljchkkaaaGreatRefBy
namespace Go.Proofs.YtbkofpljchkkaaaGreat
open Go.RowKit
def qEi (ops:Array Oper) (j:Nat):List Nat:=match ops[j]? with | some o=>zA o | none=>[]
def qWg:Ground -> Bool
 | .chain=>false
 | .phase=>false
 | _=>true
def qVq (o:Oper):List Nat:=((o.after.toList.filter (Region.binds .any)).filter fun e=>qWg e.ground).map (·.on)
def qAg (ops:Array Oper) (j:Nat):List Nat:=match ops[j]? with | some o=>qVq o | none=>[]
def qIx (c:Nat -> Bool):Nat -> List (Value -> World -> Prop) -> List (Value -> World -> Prop)
 | _,[]=>[]
 | n,f :: r=>(bif c n then f else fun _ _=>True) :: qIx c (n + 1) r
def msk (ops:Array Oper) (i:Nat) (Fl:List (Value -> World -> Prop)):List (Value -> World -> Prop):=qIx (fun j=>j == i || (qAg ops i).contains j) 0 Fl
theorem uT (c:Nat -> Bool):∀ (l:List (Value -> World -> Prop)) (n j:Nat),qN (qIx c n l) j=bif c (n + j) then qN l j else fun _ _=>True
 | [],n,j=>by cases c (n + j) <;> rfl
 | f :: r,n,0=>rfl
 | f :: r,n,j + 1=>by
   have:=uT c r (n + 1) j;rw [show n + (j + 1)=n + 1 + j by omega];exact this
theorem qFt (ops:Array Oper) (i:Nat) (l:List (Value -> World -> Prop)):qN (msk ops i l) i=qN l i:=by
 unfold msk;rw [uT];simp
theorem qJ2 {ops:Array Oper} {i j:Nat} (h:(qAg ops i).contains j=true) (l:List (Value -> World -> Prop)):qN (msk ops i l) j=qN l j:=by
 unfold msk;rw [uT,Nat.zero_add,h];simp
theorem qRj {ops:Array Oper} {i j:Nat} {l:List (Value -> World -> Prop)} {v:Value} {w:World} (hne:j ≠ i) (h:j ∈ qAg ops i -> qN l j v w):qN (msk ops i l) j v w:=by
 unfold msk;rw [uT,Nat.zero_add]
 cases hb:(qAg ops i).contains j with
 | true=>simp only [Bool.or_true,cond_true];exact h (List.contains_iff_mem.1 hb)
 | false=>rw [beq_eq_false_iff_ne.2 hne];trivial
def anc (ops:Array Oper):Nat -> Nat -> List Nat
 | 0,_=>[]
 | n + 1,j=>qEi ops j ++ (qEi ops j).flatMap (anc ops n)
def qDx (ops:Array Oper) (i j:Nat):Bool:=(anc ops ops.size j).contains i
def qRk (ops:Array Oper) (i j:Nat):Bool:=i != j && !qDx ops i j && (List.range ops.size).any fun k=>k != i && (qAg ops k).contains j && !qDx ops k i
section
variable {P:Program} {ops:Array Oper} {Q:Exit -> Act -> World -> Prop} {C:World -> Prop} {T:Nat -> World -> World -> Prop} {Fl Gl:List (Value -> World -> Prop)} {a0:Act} {i0:Nat} {F0:World -> Prop}
theorem uU {listed:Array Bool} (hc:∀ (j:Nat) (o:Oper),listed.getD j false=true -> ops[j]?=some o -> ∀ i ∈ zA o,listed.getD i false=true):∀ (n j i:Nat),listed.getD j false=true -> i ∈ anc ops n j -> listed.getD i false=true
 | 0,j,i,_,h=>by cases h
 | n + 1,j,i,hj,h=>by
   have hd:∀ k ∈ qEi ops j,listed.getD k false=true:=by
    intro k hk;unfold qEi at hk
    cases ho:ops[j]? with
    | none=>rw [ho] at hk;cases hk
    | some o=>rw [ho] at hk;exact hc j o hj ho k hk
   unfold anc at h;rcases List.mem_append.1 h with h | h
   ·exact hd i h
   ·obtain ⟨k,hk,hi⟩:=List.mem_flatMap.1 h
    exact uU hc n k i (hd k hk) hi
theorem qHo {listed:Array Bool} (hc:∀ (j:Nat) (o:Oper),listed.getD j false=true -> ops[j]?=some o -> ∀ i ∈ zA o,listed.getD i false=true) {i k:Nat} {o:Oper} (ho:ops[i]?=some o) (hr:∀ j ∈ zA o,listed.getD j false=true):∀ n,k ∈ anc ops n i -> listed.getD k false=true
 | 0,h=>by cases h
 | n + 1,h=>by
   have hd:qEi ops i=zA o:=by unfold qEi;rw [ho]
   unfold anc at h;rw [hd] at h;rcases List.mem_append.1 h with h | h
   ·exact hr k h
   ·obtain ⟨j,hj,hk⟩:=List.mem_flatMap.1 h
    exact uU hc n j k (hr j hj) hk
structure InvS (ops:Array Oper) (C:World -> Prop) (Fl Gl:List (Value -> World -> Prop)) (a0:Act) (i0:Nat) (F0:World -> Prop) (listed:Array Bool) (a:Act) (w:World):Prop where
 size:listed.size=ops.size
 agree:Agree ops a0 a
 c:C w
 closed:∀ (j:Nat) (o:Oper),listed.getD j false=true -> ops[j]?=some o -> ∀ i ∈ zA o,listed.getD i false=true
 fresh:∀ s,(∀ j,zQ ops j=some s -> listed.getD j false=false) -> a.tmps.getD s undef=a0.tmps.getD s undef
 init:listed.getD i0 false=false -> F0 w
 weak:∀ i,listed.getD i false=true -> qN Gl i (jU ops a i) w
 facts:∀ i,listed.getD i false=true -> (∃ k,k < ops.size /\ listed.getD k false=false /\ i ∈ qAg ops k) -> qN Fl i (jU ops a i) w
theorem InvS.step {listed:Array Bool} {a:Act} {w w':World} {i:Nat} {o:Oper} {v:Value} (hst:qDt ops a0.tmps.size=true)
    (hI:∀ i,(i != i0 && !qDx ops i0 i)=true -> ∀ w w',C w -> T i w w' -> F0 w -> F0 w')
    (hC:∀ i w w',C w -> T i w w' -> C w') (hG:∀ i j,(i != j && !qDx ops i j)=true -> ∀ w w' v,C w -> T i w w' -> qN Gl j v w -> qN Gl j v w') (hFG:∀ j v w,qN Fl j v w -> qN Gl j v w)
    (hT:∀ i j,qRk ops i j=true -> ∀ w w' v,C w -> T i w w' -> qN Fl j v w -> qN Fl j v w')
    (h:InvS ops C Fl Gl a0 i0 F0 listed a w) (ho:ops[i]?=some o) (hun:listed.getD i false=false)
    (hF:qN Fl i (if o.dst=none then undef else v) w') (ht:T i w w') (hready:∀ j ∈ zA o,listed.getD j false=true):InvS ops C Fl Gl a0 i0 F0 (listed.setIfInBounds i true) (a.put o.dst v) w':=by
 have hset:∀ j,listed.getD j false=true -> (listed.setIfInBounds i true).getD j false=true:=by
  intro j hj;simp only [qXn,Array.getElem?_setIfInBounds] at hj ⊢;split
  ·split <;> simp_all
  ·exact hj
 have hback:∀ j,j ≠ i -> (listed.setIfInBounds i true).getD j false=listed.getD j false:=by
  intro j e;simp only [qXn,Array.getElem?_setIfInBounds];rw [if_neg (Ne.symm e)]
 have hseti:(listed.setIfInBounds i true).getD i false=true:=by
  have:i < listed.size:=by rw [h.size];exact (qXw.1 ho).1
  simp [this]
 have hdo:zQ ops i=o.dst:=by simp [zQ,ho]
 have hval:∀ j,j ≠ i -> jU ops (a.put o.dst v) j=jU ops a j:=by
  intro j e;unfold jU
  cases hdj:zQ ops j with
  | none=>rfl
  | some d' =>
    cases hd:o.dst with
    | none=>rfl
    | some d =>
      have hlt:=((jX hst ho).2 d hd).1;dsimp only;rw [xS _ _ _ _ (by rw [h.agree.size];exact hlt),if_neg];rintro rfl;exact e (qD0 hst hdj (hdo.trans hd))
 have hvi:qN Fl i (jU ops (a.put o.dst v) i) w':=by
  unfold jU;rw [hdo]
  cases hd:o.dst with
  | none=>simpa [hd] using hF
  | some d =>
    have hlt:=((jX hst ho).2 d hd).1;dsimp only;rw [xS _ _ _ _ (by rw [h.agree.size];exact hlt)];simpa [hd] using hF
 refine ⟨by simp [h.size],⟨by rw [qBl];exact h.agree.defers,by rw [qEo];exact h.agree.size,?_⟩,hC i w w' h.c ht,?_,?_,?_,?_,?_⟩
 ·intro s hs
  cases hd:o.dst with
  | none=>exact h.agree.same s hs
  | some d =>
    have hlt:=((jX hst ho).2 d hd).1;rw [xS _ _ _ _ (by rw [h.agree.size];exact hlt)]
    have hne:s ≠ d:=by
     rintro rfl;have:=Array.all_eq_true_iff_forall_mem.1 hs o (Array.mem_of_getElem? ho);simp [hd] at this
    rw [if_neg hne];exact h.agree.same s hs
 ·intro j o' hj hoj k hk
  by_cases e:j=i
  ·subst e
   rw [ho] at hoj
   cases hoj
   exact hset k (hready k hk)
  ·rw [hback j e] at hj
   exact hset k (h.closed j o' hj hoj k hk)
 ·intro s hs
  have hold:=h.fresh s (fun j hj=>by
   have:=hs j hj
   cases hb:listed.getD j false with
   | false=>rfl
   | true=>rw [hset j hb] at this;cases this)
  cases hd:o.dst with
  | none=>exact hold
  | some d =>
    have hlt:=((jX hst ho).2 d hd).1;rw [xS _ _ _ _ (by rw [h.agree.size];exact hlt),if_neg]
    ·exact hold
    ·rintro rfl
     have:=hs i (hdo.trans hd);rw [hseti] at this
     cases this
 ·intro hu
  have hne:i0 ≠ i:=by rintro rfl;rw [hseti] at hu;cases hu
  rw [hback i0 hne] at hu;refine hI i ?_ w w' h.c ht (h.init hu);simp only [qXi,bne_iff_ne,ne_eq,Bool.not_eq_true'];refine ⟨fun e=>hne e.symm,?_⟩
  cases ha:qDx ops i0 i with
  | false=>rfl
  | true =>
    unfold qDx at ha;rw [List.contains_iff_mem] at ha;have:=qHo h.closed ho hready _ ha;rw [hu] at this;cases this
 ·intro j hj
  by_cases e:j=i
  ·subst e;exact hFG _ _ _ hvi
  ·rw [hback j e] at hj
   rw [hval j e];refine hG i j ?_ w w' _ h.c ht (h.weak j hj);simp only [qXi,bne_iff_ne,ne_eq,Bool.not_eq_true'];refine ⟨fun h=>e h.symm,?_⟩
   cases ha:qDx ops i j with
   | false=>rfl
   | true =>
     unfold qDx at ha;rw [List.contains_iff_mem] at ha;have:=uU h.closed _ j i hj ha;rw [hun] at this;cases this
 ·intro j hj ⟨k,hk,hku,hjk⟩
  by_cases e:j=i
  ·subst e;exact hvi
  ·rw [hback j e] at hj
   rw [hval j e];have hki:k ≠ i:=by rintro rfl;rw [hseti] at hku;cases hku
   rw [hback k hki] at hku;refine hT i j ?_ w w' _ h.c ht (h.facts j hj ⟨k,hk,hku,hjk⟩);unfold qRk;simp only [qXi,bne_iff_ne,ne_eq,Bool.not_eq_true',List.any_eq_true,List.mem_range,List.contains_iff_mem];refine ⟨⟨fun h=>e h.symm,?_⟩,k,hk,⟨hki,hjk⟩,?_⟩
   ·cases ha:qDx ops i j with
    | false=>rfl
    | true =>
      unfold qDx at ha;rw [List.contains_iff_mem] at ha;have:=uU h.closed _ j i hj ha;rw [hun] at this;cases this
   ·cases ha:qDx ops k i with
    | false=>rfl
    | true =>
      unfold qDx at ha;rw [List.contains_iff_mem] at ha;have:=qHo h.closed ho hready _ ha;rw [hku] at this;cases this
theorem qIy (hst:qDt ops a0.tmps.size=true)
    (hI:∀ i,(i != i0 && !qDx ops i0 i)=true -> ∀ w w',C w -> T i w w' -> F0 w -> F0 w')
    (hC:∀ i w w',C w -> T i w w' -> C w') (hG:∀ i j,(i != j && !qDx ops i j)=true -> ∀ w w' v,C w -> T i w w' -> qN Gl j v w -> qN Gl j v w') (hFG:∀ j v w,qN Fl j v w -> qN Gl j v w)
    (hT:∀ i j,qRk ops i j=true -> ∀ w w' v,C w -> T i w w' -> qN Fl j v w -> qN Fl j v w')
    (hop:∀ i,i < ops.size -> zB P ops Q (fun w=>C w /\ (i=i0 -> F0 w)) (T i) (msk ops i Fl) a0 i)
    (hend:∀ a w,C w -> Agree ops a0 a -> (∀ i,i < ops.size -> qN Gl i (jU ops a i) w) -> Q .normal a w) :
    ∀ (fuel:Nat) (listed:Array Bool) (a:Act) (w:World),jZ listed=fuel -> InvS ops C Fl Gl a0 i0 F0 listed a w -> wpAny P .any ops Q fuel listed a w:=by
 intro fuel
 induction fuel with
 | zero =>
   intro listed a w hu h
   have hall:∀ i,i < listed.size -> listed.getD i false=true:=by
    intro i hi;unfold jZ at hu;have:=List.filter_eq_nil_iff.1 (List.eq_nil_of_length_eq_zero hu) listed[i] (by simp);simpa [Array.getD,hi] using this
   refine ⟨?_,hend a w h.c h.agree fun i hi=>h.weak i (hall i (by rw [h.size];exact hi))⟩;unfold Region.ready;rw [List.filter_eq_nil_iff];intro i hi;rw [List.mem_range] at hi;have h1:=hall i (by rw [h.size];exact hi);have:i < listed.size:=by rw [h.size];exact hi
   simp [Array.getD,this] at h1 ⊢;simp [h1]
 | succ fuel ih =>
   intro listed a w hu h;refine ⟨fun hr=>hend a w h.c h.agree fun i hi=>h.weak i (qEp hst h.size hr i hi),?_⟩;intro i hi;unfold Region.ready at hi;rw [List.mem_filter,List.mem_range] at hi;obtain ⟨hilt,hr⟩:=hi;have ho:ops[i]?=some ops[i]:=Array.getElem?_eq_getElem hilt;rw [ho] at hr;simp only [Option.map_some,Option.getD_some,qXi,Bool.not_eq_true'] at hr
   have hun:listed[i]?=some false:=by
    have hlt:i < listed.size:=by rw [h.size];exact hilt
    have h1:=hr.1;rw [Array.getElem?_eq_getElem hlt];simp [Array.getD,hlt] at h1;rw [h1]
   have hunD:listed.getD i false=false:=by rw [qXn,hun];rfl
   have hready:∀ j ∈ zA ops[i],listed.getD j false=true:=by
    intro j hj;unfold zA at hj;obtain ⟨e,he,rfl⟩:=List.mem_map.1 hj;obtain ⟨he1,he2⟩:=List.mem_filter.1 he;have:=Array.all_eq_true_iff_forall_mem.1 hr.2 e (Array.mem_toList_iff.1 he1);rw [he2] at this;simpa using this
   have hfresh:∀ s,uZ ops i s=true -> a.tmps.getD s undef=a0.tmps.getD s undef:=by
    intro s hs;refine h.fresh s fun j hj=>?_;obtain ⟨o',h1,h2⟩:=Option.bind_eq_some_iff.1 hj;unfold uZ at hs;rw [qXb] at hs;have:=hs j (List.mem_range.2 (qXw.1 h1).1);rw [h1] at this;simp only [h2,bne_self_eq_false,Bool.false_or,Bool.or_eq_true,decide_eq_true_eq,List.contains_iff_mem] at this
    cases hb:listed.getD j false with
    | false=>rfl
    | true =>
      rcases this with rfl | hm
      ·rw [hb] at hunD;cases hunD
      ·have:=h.closed j o' hb h1 i hm
       rw [this] at hunD;cases hunD
   have hdeps:=qDz.to _ (hop i hilt _ ho a w ⟨h.c,fun e=>h.init (by rw [<- e];exact hunD)⟩ hfresh) (fun j hj=>qRj (by rintro rfl;have:=hready j hj;rw [hunD] at this;cases this) fun hd=>h.facts j (hready j hj) ⟨i,hilt,hunD,hd⟩);refine wpOp_mono ?_ hdeps;rintro a' w' ⟨v,rfl,hF,ht⟩;rw [qFt] at hF;exact ih _ _ _ (by have:=yI hun;omega) (h.step hst hI hC hG hFG hT ho hunD hF ht hready)
theorem uJ {id:Nat} {w0:World} (hm:P.follows .mixedOrders=true) (C:World -> Prop) (T:Nat -> World -> World -> Prop) (Fl Gl:List (Value -> World -> Prop)) (hn:Gl.length=ops.size) (hst:qDt ops a0.tmps.size=true)
    (i0:Nat) (F0:World -> Prop) (hF0:F0 w0.drew) (hI:∀ i,(i != i0 && !qDx ops i0 i)=true -> ∀ w w',C w -> T i w w' -> F0 w -> F0 w')
    (hC0:C w0.drew) (hC:∀ i w w',C w -> T i w w' -> C w') (hG:∀ i j,(i != j && !qDx ops i j)=true -> ∀ w w' v,C w -> T i w w' -> qN Gl j v w -> qN Gl j v w') (hFG:∀ j v w,qN Fl j v w -> qN Gl j v w)
    (hT:∀ i j,qRk ops i j=true -> ∀ w w' v,C w -> T i w w' -> qN Fl j v w -> qN Fl j v w')
    (hop:∀ i,i < ops.size -> zB P ops Q (fun w=>C w /\ (i=i0 -> F0 w)) (T i) (msk ops i Fl) a0 i)
    (hend:∀ w,C w -> xV Q w Gl (ops.toList.map (·.dst)) a0):(Code.region id ops true).wp P Q a0 w0:=by
 refine wp_region_any hm ?_
 refine qIy hst hI hC hG hFG hT hop ?_ ops.size _ a0 _ ?_ ⟨by simp,⟨rfl,rfl,fun _ _=>rfl⟩,hC0,(fun j o hj=>by simp [Array.getD] at hj),fun _ _=>rfl,fun _=>hF0,?_,?_⟩
 ·intro a w hc ha hf
  rw [<- qMa a hst ha]
  have:=xV.to (Q:=Q) (ops:=ops) (a0:=a0) (w:=w) (jU ops a) ops.size 0 Gl (ops.toList.map (·.dst)) hn (by simp) (fun i hi=>by simp [zQ,hi]) (fun i f hi=>by
   have hlt:i < ops.size:=by rw [<- hn];exact (qXt.1 hi).1
   have:=hf i hlt;rw [vS hi] at this
   simpa using this) (hend w hc)
  simpa using this
 ·simp [jZ]
 ·intro i hi
  simp [Array.getD] at hi
 ·intro i hi
  simp [Array.getD] at hi
inductive Fc where
 | is (v:Value)
 | rd (xs:List Int)
 | own (xs:List Int)
 | lit (z0:Nat) (x:Int)
def fcF (E:TypeId) (z:Nat):Fc -> Value -> World -> Prop
 | .is x=>Is x
 | .rd xs=>jM .u8 xs
 | .lit z0 x=>fun v w=>∃ p,v=.slice (some ⟨p,0,none⟩) 1 1 /\ z0 <= p /\ w.heap[p]?=some (.cells #[.int .u8 x] E (0,0)) /\ (Lit.int .u8 x).wf=true
 | .own xs=>fun v w=>Own E .u8 z w v xs
def fcG:Fc -> Value -> World -> Prop
 | .is x=>Is x
 | _=>fun _ _=>True
def qW4:Fc -> Bool
 | .is _=>true
 | _=>false
theorem qDq {w:World} {p:Nat} {x:Int} {E:TypeId} (h:w.heap[p]?=some (.cells #[.int .u8 x] E (0,0))) (hx:(Lit.int .u8 x).wf=true):Rd .u8 w (some ⟨p,0,none⟩) 1 1 [x]:=by
 refine ⟨rfl,qW8 _,by unfold maxLen;omega,(fun h=>by cases h),?_,?_⟩
 ·intro ad ha i hi
  cases ha
  obtain rfl:i=0:=by omega
  unfold World.cell?;simp [Addr.add,h]
 ·intro y hy
  simp at hy;subst hy;exact hx
def qUm (F:Value -> World -> Prop) (z:Nat) (w w':World):Prop:=Below z w w' /\ ∃ v,F v w /\ ∀ b,v.ownBlock ≠ some b -> b < w.heap.size -> w'.heap[b]?=w.heap[b]?
theorem qDz.of {a:Act} {w:World} {G:Prop}:∀ {js:List Nat},((∀ j ∈ js,qN Fl j (jU ops a j) w) -> G) -> qDz ops Fl a w G js
 | [],h=>h fun _ h=>by cases h
 | j :: js,h=>fun hf=>qDz.of (js:=js) fun h2=>h fun k hk=>by
   rcases List.mem_cons.1 hk with rfl | hk
   ·exact hf
   ·exact h2 k hk
theorem jD {f:Fc -> Value -> World -> Prop}:∀ {l:List Fc} {i:Nat} {c:Fc},l[i]?=some c -> qN (l.map f) i=f c
 | c :: r,0,d,h=>by simp at h;subst h;rfl
 | c :: r,i + 1,d,h=>jD (l:=r) (by simpa using h)
theorem xG {E:TypeId} {z:Nat} {ks:List Fc} {i:Nat} {o:Oper} {d sa sb:Tmp} {t:TypeId} (ho:ops[i]?=some o) (hd:o.dst=some d) (hg:o.guard=none)
    (hop:o.op=.call { callee:=.builtin .append,args:=#[.tmp sa,.tmp sb],argTypes:=#[t,t] }) (ht:P.underlying t=some (.slice E)) (hi:(P.info? E).map (fun i=>(i.zero,i.size,i.bytes))=some (some (.int .u8 0),1,1))
    {j0 j1:Nat} (hj0:(zA o).contains j0=true) (hj1:(zA o).contains j1=true) (hq0:(qAg ops i).contains j0=true) (hq1:(qAg ops i).contains j1=true) (hd0:zQ ops j0=some sa) (hd1:zQ ops j1=some sb) {xs ys:List Int}
    (h0:ks[j0]?=some (.own xs)) (h1:ks[j1]?=some (.rd ys) ∨ ks[j1]?=some (.own ys) ∨ ∃ z0 x,ks[j1]?=some (.lit z0 x) /\ ys=[x]) (hk:ks[i]?=some (.own (xs ++ ys))) (hl:xs.length + ys.length <= 140737488355328)
    (hC:∀ w,C w -> z <= w.heap.size) (hTi:∀ w w',qUm (fcF E z (.own xs)) z w w' -> T i w w'):zB P ops Q C (T i) (msk ops i (ks.map (fcF E z))) a0 i:=by
 intro o' ho' a w hCw _
 rw [ho] at ho'
 cases ho'
 refine qDz.of fun hf=>?_
 have f0:=hf j0 (List.contains_iff_mem.1 hj0)
 have f1:=hf j1 (List.contains_iff_mem.1 hj1)
 rw [qJ2 hq0] at f0
 rw [qJ2 hq1] at f1
 rw [jD h0] at f0
 have e0:jU ops a j0=a.eval (.tmp sa):=by unfold jU;rw [hd0];rfl
 have e1:jU ops a j1=a.eval (.tmp sb):=by unfold jU;rw [hd1];rfl
 rw [e0] at f0
 rw [e1] at f1
 obtain ⟨ao,cap,hx,hr⟩:∃ ao cap,a.eval (.tmp sb)=.slice ao ys.length cap /\ Rd .u8 w ao ys.length cap ys:=by
  rcases h1 with h1 | h1 | ⟨z1,x1,h1,rfl⟩
  ·rw [jD h1] at f1;exact f1
  ·rw [jD h1] at f1
   obtain ⟨ao,cap,e,hr⟩:=Own.rd f1;exact ⟨ao,cap,e,hr⟩
  ·rw [jD h1] at f1
   obtain ⟨p,e,_,hp,hx⟩:=f1;exact ⟨_,_,e,qDq hp hx⟩
 refine wpOp_step ho fun K hK=>?_
 refine jP hg (.tmp sa) (.tmp sb) t hop E .u8 z 1 ht hi _ xs rfl f0 ao ys.length cap ys hx hr (by omega) (by omega) (hC w hCw) ?_
 intro v' w' ho' hb hs
 refine hK _ _ ⟨v',rfl,?_,?_⟩
 ·rw [qFt,jD hk,hd];exact ho'
 ·exact hTi _ _ ⟨hb,_,f0,hs⟩
theorem qBj (E:TypeId) (z:Nat):∀ (c:Fc) (v:Value) (a b:World),fcF E z c v a -> Below a.heap.size a b -> fcF E z c v b
 | .is _,_,_,_,h,_=>h
 | .rd _,_,_,_,⟨ao,cap,e,h⟩,hb=>⟨ao,cap,e,h.below hb⟩
 | .own _,_,_,_,h,hb=>Own.below h hb (qW8 _)
 | .lit _ _,_,_,_,⟨p,e,hz,hp,hx⟩,hb=>⟨p,e,hz,(hb.block p (qXw.1 hp).1).trans hp,hx⟩
theorem qHp:∀ (c:Fc) (v:Value) (a b:World),fcG c v a -> fcG c v b
 | .is _,_,_,_,h=>h
 | .rd _,_,_,_,_=>trivial
 | .own _,_,_,_,_=>trivial
 | .lit _ _,_,_,_,_=>trivial
theorem qVr (E:TypeId) (z:Nat):∀ (c:Fc) (v:Value) (w:World),fcF E z c v w -> fcG c v w
 | .is _,_,_,h=>h
 | .rd _,_,_,_=>trivial
 | .own _,_,_,_=>trivial
 | .lit _ _,_,_,_=>trivial
def spT (E:TypeId) (z:Nat) (apps:List (Nat × List Int)) (i:Nat):World -> World -> Prop :=
 match apps.find? (fun p=>p.1 == i) with
 | some p=>qUm (fcF E z (.own p.2)) z
 | none=>u4
def qWm (ops:Array Oper) (ks:List Fc) (apps:List (Nat × List Int)):Bool :=
 apps.all fun p=>(List.range ks.length).all fun j=>!qRk ops p.1 j || (match ks[j]? with | some c=>qW4 c | none=>true)
def qJ3 (ops:Array Oper) (n:Nat) (apps:List (Nat × List Int)):Bool:=apps.all fun p=>qDx ops p.1 n
def qFu (ops:Array Oper) (i0:Nat) (apps:List (Nat × List Int)):Bool:=apps.all fun p=>p.1 == i0 || qDx ops i0 p.1
theorem xH {l:List (Value -> World -> Prop)}:∀ {i:Nat},l.length <= i -> qN l i=fun _ _=>True:=by
 induction l with
 | nil=>intro i _;rfl
 | cons a r ih =>
   intro i h
   cases i with
   | zero=>simp at h
   | succ i=>exact ih (by simpa using h)
theorem qEj {l r:List (Value -> World -> Prop)}:∀ {i:Nat},i < l.length -> qN (l ++ r) i=qN l i:=by
 induction l with
 | nil=>intro i h;simp at h
 | cons a q ih =>
   intro i h
   cases i with
   | zero=>rfl
   | succ i=>exact ih (by simpa using h)
theorem qDr {l:List (Value -> World -> Prop)} {f:Value -> World -> Prop}:qN (l ++ [f]) l.length=f:=by
 induction l with
 | nil=>rfl
 | cons a q ih=>exact ih
theorem qDs {id:Nat} {w0:World} {E:TypeId} {z:Nat} (hm:P.follows .mixedOrders=true) (i0:Nat) (v0:Value) (xs0:List Int) (hv0:Own E .u8 z w0 v0 xs0) (hz:z <= w0.heap.size) (ks:List Fc) (res:List Int) (apps:List (Nat × List Int))
    (hn:ks.length + 1=ops.size) (hst:qDt ops a0.tmps.size=true) (hok:qWm ops (ks ++ [Fc.own res]) apps=true) (hla:qJ3 ops ks.length apps=true) (hfi:qFu ops i0 apps=true)
    (hop:∀ i,i < ops.size -> zB P ops Q (fun w=>Below z w0 w /\ (i=i0 -> Own E .u8 z w v0 xs0)) (spT E z apps i) (msk ops i ((ks ++ [Fc.own res]).map (fcF E z))) a0 i)
    (hend:∀ w,Below z w0 w -> xV Q w (ks.map fcG ++ [fcF E z (.own res)]) (ops.toList.map (·.dst)) a0):(Code.region id ops true).wp P Q a0 w0:=by
 have hCz:∀ w,Below z w0 w -> z <= w.heap.size:=fun w h=>qXk hz h.size
 have hlen:(ks.map fcG).length=ks.length:=by simp
 have gat:∀ j,j < ks.length -> ∃ c,ks[j]?=some c /\ qN (ks.map fcG ++ [fcF E z (.own res)]) j=fcG c:=fun j hj=>by
  refine ⟨ks[j],qW6 hj,?_⟩;rw [qEj (by simpa using hj)];exact jD (qW6 hj)
 have glast:qN (ks.map fcG ++ [fcF E z (.own res)]) ks.length=fcF E z (.own res):=by
  have:=qDr (l:=ks.map fcG) (f:=fcF E z (.own res))
  rwa [hlen] at this
 have fat:∀ j,j < ks.length -> ∀ c,ks[j]?=some c -> qN ((ks ++ [Fc.own res]).map (fcF E z)) j=fcF E z c:=fun j hj c hc =>
  jD (by rw [List.getElem?_append_left hj];exact hc)
 have flast:qN ((ks ++ [Fc.own res]).map (fcF E z)) ks.length=fcF E z (.own res):=jD (by simp)
 refine uJ (P:=P) (Q:=Q) hm (fun w=>Below z w0 w) (spT E z apps) ((ks ++ [Fc.own res]).map (fcF E z)) (ks.map fcG ++ [fcF E z (.own res)]) (by simp;omega) hst i0 (fun w=>Own E .u8 z w v0 xs0) hv0.drew ?_ (qXh _ _).drew ?_ ?_ ?_ ?_ hop hend
 ·intro i hi w w' hc ht hf
  unfold spT at ht
  cases hp:apps.find? (fun p=>p.1 == i) with
  | some p =>
    exfalso;have h1:=List.find?_some hp;have h2:=List.mem_of_find?_eq_some hp;have h3:=qXb.1 hfi p h2;simp only [beq_iff_eq] at h1;rw [h1] at h3;simp only [qXi,bne_iff_ne,ne_eq,Bool.not_eq_true',Bool.or_eq_true,beq_iff_eq] at hi h3;rcases h3 with h3 | h3
    ·exact hi.1 h3
    ·rw [hi.2] at h3;cases h3
  | none=>rw [hp] at ht;exact hf.below ht (qW8 _)
 ·intro i w w' hc ht
  unfold spT at ht
  cases hp:apps.find? (fun p=>p.1 == i) with
  | some p=>rw [hp] at ht;exact hc.trans ht.1
  | none=>rw [hp] at ht;exact hc.trans (Below.mono ht (hCz w hc))
 ·intro i j hij w w' v hc ht hg
  rcases Nat.lt_trichotomy j ks.length with h | h | h
  ·obtain ⟨c,_,e⟩:=gat j h
   rw [e] at hg ⊢;exact qHp c v w w' hg
  ·subst h
   rw [glast] at hg ⊢;unfold spT at ht
   cases hp:apps.find? (fun p=>p.1 == i) with
   | some p =>
     exfalso;have h1:=List.find?_some hp;have h2:=List.mem_of_find?_eq_some hp;have h3:=qXb.1 hla p h2;simp only [beq_iff_eq] at h1;rw [h1] at h3;simp [h3] at hij
   | none=>rw [hp] at ht;exact qBj E z _ v w w' hg ht
  ·rw [xH (by simp;omega)]
   trivial
 ·intro j v w hf
  rcases Nat.lt_trichotomy j ks.length with h | h | h
  ·obtain ⟨c,hc,e⟩:=gat j h
   rw [fat j h c hc] at hf;rw [e];exact qVr E z c v w hf
  ·subst h
   rw [flast] at hf;rw [glast];exact hf
  ·rw [xH (by simp;omega)]
   trivial
 ·intro i j hk w w' v hc ht hf
  rcases Nat.lt_or_ge j (ks ++ [Fc.own res]).length with h | h
  ·have e:qN ((ks ++ [Fc.own res]).map (fcF E z)) j=fcF E z ((ks ++ [Fc.own res])[j]):=jD (qW6 h)
   rw [e] at hf ⊢;unfold spT at ht
   cases hp:apps.find? (fun p=>p.1 == i) with
   | some p =>
     have h1:=List.find?_some hp;have h2:=List.mem_of_find?_eq_some hp;simp only [beq_iff_eq] at h1;have h3:=qXb.1 (qXb.1 hok p h2) j (List.mem_range.2 h);rw [h1,hk,qW6 h] at h3;simp only [Bool.not_true,Bool.false_or] at h3;generalize (ks ++ [Fc.own res])[j]=c at hf h3
     cases c with
     | is x=>exact hf
     | rd xs=>cases h3
     | own xs=>cases h3
     | lit z0 x=>cases h3
   | none=>rw [hp] at ht;exact qBj E z _ v w w' hf ht
  ·rw [xH (by simpa using h)]
   trivial
theorem qY {E:TypeId} {z:Nat} {apps:List (Nat × List Int)} {i:Nat} (h:(apps.find? (fun p=>p.1 == i))=none) (r:qEs P ops C Fl a0 i):zB P ops Q C (spT E z apps i) Fl a0 i:=by
 obtain ⟨o,d,F,gd,dl,fl,h1,h2,h3,h4,h5,h6,h7⟩:=r;have e:spT E z apps i=u4:=by unfold spT;rw [h]
 rw [e];exact qCt.rule h6.to h1 h2 h3 h4 h5 h7
theorem qAq {E:TypeId} {z:Nat} {apps:List (Nat × List Int)} {i:Nat} {xs:List Int} (h:apps.find? (fun p=>p.1 == i)=some (i,xs)):∀ w w',qUm (fcF E z (.own xs)) z w w' -> spT E z apps i w w':=by
 intro w w' ht;unfold spT;rw [h];exact ht
theorem qFv {E:TypeId} {z:Nat} {apps:List (Nat × List Int)} {i:Nat} {xs:List Int} {v0:Value} (h:apps.find? (fun p=>p.1 == i)=some (i,xs)):∀ w w',qUm (fun v w=>v=v0 /\ Own E .u8 z w v xs) z w w' -> spT E z apps i w w':=by
 rintro w w' ⟨hb,v,⟨_,ho⟩,hs⟩;unfold spT;rw [h];exact ⟨hb,v,ho,hs⟩
def qEk (P:Program) (ops:Array Oper) (Q:Exit -> Act -> World -> Prop) (C:World -> Prop) (i0:Nat) (F0:World -> Prop) (T:Nat -> World -> World -> Prop) (Fl:List (Value -> World -> Prop)) (a0:Act):List Nat -> Prop
 | []=>True
 | i :: r=>zB P ops Q (fun w=>C w /\ (i=i0 -> F0 w)) (T i) (msk ops i Fl) a0 i /\ qEk P ops Q C i0 F0 T Fl a0 r
theorem qEk.at:∀ {l:List Nat},qEk P ops Q C i0 F0 T Fl a0 l -> ∀ i ∈ l,zB P ops Q (fun w=>C w /\ (i=i0 -> F0 w)) (T i) (msk ops i Fl) a0 i
 | [],_,i,h=>by cases h
 | j :: r,h,i,hi=>by
   rcases List.mem_cons.1 hi with rfl | hi
   ·exact h.1
   ·exact qEk.at h.2 i hi
theorem xU {id:Nat} {w0:World} {E:TypeId} {z:Nat} (hm:P.follows .mixedOrders=true) (i0:Nat) (v0:Value) (xs0:List Int) (hv0:Own E .u8 z w0 v0 xs0) (hz:z <= w0.heap.size) (ks:List Fc) (res:List Int) (apps:List (Nat × List Int)) (l:List Nat)
    (hn:ks.length + 1=ops.size) (hst:qDt ops a0.tmps.size=true) (hl:l=List.range ops.size)
    (hop:qEk P ops Q (fun w=>Below z w0 w) i0 (fun w=>Own E .u8 z w v0 xs0) (spT E z apps) ((ks ++ [Fc.own res]).map (fcF E z)) a0 l) (hok:qWm ops (ks ++ [Fc.own res]) apps=true) (hla:qJ3 ops ks.length apps=true) (hfi:qFu ops i0 apps=true)
    (hend:∀ w,Below z w0 w -> xV Q w (ks.map fcG ++ [fcF E z (.own res)]) (ops.toList.map (·.dst)) a0):(Code.region id ops true).wp P Q a0 w0 :=
 qDs hm i0 v0 xs0 hv0 hz ks res apps hn hst hok hla hfi (fun i hi=>hop.at i (by rw [hl];exact List.mem_range.2 hi)) hend
theorem uV {E:TypeId} {z:Nat} {ks:List Fc} {i:Nat} {o:Oper} {d sa sb:Tmp} {t:TypeId} {v0:Value} {xs:List Int} (ho:ops[i]?=some o) (hd:o.dst=some d) (hg:o.guard=none)
    (hop:o.op=.call { callee:=.builtin .append,args:=#[.tmp sa,.tmp sb],argTypes:=#[t,t] }) (ht:P.underlying t=some (.slice E)) (hi:(P.info? E).map (fun i=>(i.zero,i.size,i.bytes))=some (some (.int .u8 0),1,1))
    {j0 j1:Nat} (hj0:(zA o).contains j0=true) (hj1:(zA o).contains j1=true) (hq0:(qAg ops i).contains j0=true) (hq1:(qAg ops i).contains j1=true) (hd0:zQ ops j0=some sa) (hd1:zQ ops j1=some sb) {ys:List Int}
    (h0:ks[j0]?=some (.is v0)) (h1:ks[j1]?=some (.rd ys) ∨ ks[j1]?=some (.own ys) ∨ ∃ z0 x,ks[j1]?=some (.lit z0 x) /\ ys=[x]) (hk:ks[i]?=some (.own (xs ++ ys))) (hl:xs.length + ys.length <= 140737488355328)
    (hC:∀ w,C w -> z <= w.heap.size) (hF:∀ w,C w -> Own E .u8 z w v0 xs) (hTi:∀ w w',qUm (fun v w=>v=v0 /\ Own E .u8 z w v xs) z w w' -> T i w w'):zB P ops Q C (T i) (msk ops i (ks.map (fcF E z))) a0 i:=by
 intro o' ho' a w hCw _
 rw [ho] at ho'
 cases ho'
 refine qDz.of fun hf=>?_
 have f0:=hf j0 (List.contains_iff_mem.1 hj0)
 have f1:=hf j1 (List.contains_iff_mem.1 hj1)
 rw [qJ2 hq0] at f0
 rw [qJ2 hq1] at f1
 rw [jD h0] at f0
 have e0:jU ops a j0=a.eval (.tmp sa):=by unfold jU;rw [hd0];rfl
 have e1:jU ops a j1=a.eval (.tmp sb):=by unfold jU;rw [hd1];rfl
 rw [e0] at f0
 rw [e1] at f1
 have f0':a.eval (.tmp sa)=v0:=f0
 have hown:=hF w hCw
 rw [<- f0'] at hown
 obtain ⟨ao,cap,hx,hr⟩:∃ ao cap,a.eval (.tmp sb)=.slice ao ys.length cap /\ Rd .u8 w ao ys.length cap ys:=by
  rcases h1 with h1 | h1 | ⟨z1,x1,h1,rfl⟩
  ·rw [jD h1] at f1;exact f1
  ·rw [jD h1] at f1
   obtain ⟨ao,cap,e,hr⟩:=Own.rd f1;exact ⟨ao,cap,e,hr⟩
  ·rw [jD h1] at f1
   obtain ⟨p,e,_,hp,hx⟩:=f1;exact ⟨_,_,e,qDq hp hx⟩
 refine wpOp_step ho fun K hK=>?_
 refine jP hg (.tmp sa) (.tmp sb) t hop E .u8 z 1 ht hi _ xs rfl hown ao ys.length cap ys hx hr (by omega) (by omega) (hC w hCw) ?_
 intro v' w' ho' hb hs
 refine hK _ _ ⟨v',rfl,?_,?_⟩
 ·rw [qFt,jD hk,hd];exact ho'
 ·exact hTi _ _ ⟨hb,_,⟨f0',hown⟩,hs⟩
end
end Go.Proofs.YtbkofpljchkkaaaGreat
