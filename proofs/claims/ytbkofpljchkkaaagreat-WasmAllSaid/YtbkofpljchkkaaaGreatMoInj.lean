/- Words: MoInj. -/
import Derived.Test.YtbkofpljchkkaaaGreatWD
import Derived.Test.YtbkofpljchkkaaaGreatWA
import Derived.Test.YtbkofpljchkkaaaGreatWE
import Derived.Test.YtbkofpljchkkaaaGreatWaManyM
import Derived.Test.YtbkofpljchkkaaaGreatKE
import Derived.Test.YtbkofpljchkkaaaGreatPartM
namespace Go.Proofs.YtbkofpljchkkaaaGreat
open Go.RowKit
def Pfx {α:Type} (may:α -> Prop) (f:α -> List Int):Prop:=∀ x y r s,may x -> may y -> f x ++ r=f y ++ s -> x=y /\ r=s
theorem encU_pfx:∀ (f:Nat) (u v:Int) (r s:List Int),qZ f u ++ r=qZ f v ++ s -> u=v /\ r=s
 | 0,u,v,r,s,h=>by
   simp only [qZ,List.cons_append,List.nil_append,List.cons.injEq] at h;exact h
 | f + 1,u,v,r,s,h=>by
   by_cases hu:128 <= u
   ·rw [vK hu] at h;by_cases hv:128 <= v
    ·rw [vK hv] at h;simp only [List.cons_append,List.cons.injEq] at h;obtain ⟨e1,e2⟩:=encU_pfx f _ _ r s h.2;exact ⟨by omega,e2⟩
    ·rw [xE hv] at h;simp only [List.cons_append,List.cons.injEq] at h;omega
   ·rw [xE hu] at h;by_cases hv:128 <= v
    ·rw [vK hv] at h;simp only [List.cons_append,List.cons.injEq] at h;omega
    ·rw [xE hv] at h;simpa using h
theorem num_pfx {may:Int -> Prop}:Pfx may jG:=fun x y r s _ _ h=>encU_pfx 9 x y r s h
theorem len_pfx {n m:Nat} {r s:List Int} (h:qZ 9 (n:Int) ++ r=qZ 9 (m:Int) ++ s):n=m /\ r=s:=by
 obtain ⟨h1,h2⟩:=encU_pfx 9 _ _ _ _ h;exact ⟨by omega,h2⟩
theorem sz_pfx {a b r s:List Int} (h:szE a ++ r=szE b ++ s):a=b /\ r=s:=by
 unfold szE at h;rw [qXe,qXe] at h;obtain ⟨h1,h2⟩:=len_pfx h;exact List.append_inj h2 h1
theorem flat_pfx {α:Type} {may:α -> Prop} {f:α -> List Int} (hf:Pfx may f):∀ (xs ys:List α) (r s:List Int),xs.length=ys.length -> (∀ x ∈ xs,may x) -> (∀ y ∈ ys,may y) -> xs.flatMap f ++ r=ys.flatMap f ++ s -> xs=ys /\ r=s
 | [],[],r,s,_,_,_,h=>⟨rfl,by simpa using h⟩
 | [],_ :: _,_,_,hl,_,_,_=>by simp at hl
 | _ :: _,[],_,_,hl,_,_,_=>by simp at hl
 | x :: xs,y :: ys,r,s,hl,hx,hy,h=>by
   simp only [List.flatMap_cons,qXe] at h;obtain ⟨e1,e2⟩:=hf x y _ _ (hx x (by simp)) (hy y (by simp)) h;obtain ⟨e3,e4⟩:=flat_pfx hf xs ys r s (by simpa using hl) (fun z hz=>hx z (by simp [hz])) (fun z hz=>hy z (by simp [hz])) e2;exact ⟨by rw [e1,e3],e4⟩
theorem vec_pfx {α:Type} {may:α -> Prop} {f:α -> List Int} (hf:Pfx may f) {xs ys:List α} {r s:List Int} (hx:∀ x ∈ xs,may x) (hy:∀ y ∈ ys,may y) (h:qT f xs ++ r=qT f ys ++ s):xs=ys /\ r=s:=by
 unfold qT at h;rw [qXe,qXe] at h;obtain ⟨h1,h2⟩:=len_pfx h;exact flat_pfx hf xs ys r s h1 hx hy h2
theorem k_pfx:Pfx (fun k=>yG k=true) kE:=fun x y r s hx hy h=>by
 simp only [yG,Bool.or_eq_true,beq_iff_eq] at hx hy;simp only [kE,List.cons_append,List.nil_append,List.cons.injEq] at h;obtain ⟨h1,h2⟩:=h;refine ⟨?_,h2⟩;rcases hx with rfl | rfl <;> rcases hy with rfl | rfl <;> simp [kB] at h1 ⊢
theorem nm_pfx {may:ByteArray -> Prop}:Pfx may nmE:=fun x y r s _ _ h=>by
 obtain ⟨h1,h2⟩:=sz_pfx h;exact ⟨by rw [<- qVd x,<- qVd y,h1],h2⟩
theorem all_mem {α:Type} {p:α -> Bool} {l:List α} (h:l.all p=true):∀ x ∈ l,p x=true:=qXb.1 h
theorem ty_pfx:Pfx (fun t=>xL t=true) tyE:=fun x y r s hx hy h=>by
 obtain ⟨xp,xr⟩:=x;obtain ⟨yp,yr⟩:=y;simp only [xL,qXi] at hx hy;simp only [tyE,List.cons_append,List.cons.injEq,true_and,qXe] at h;obtain ⟨h1,h2⟩:=vec_pfx k_pfx (all_mem hx.1.2) (all_mem hy.1.2) h;obtain ⟨h3,h4⟩:=vec_pfx k_pfx (all_mem hx.2) (all_mem hy.2) h2;exact ⟨by rw [h1,h3],h4⟩
theorem im_pfx {may:MIm -> Prop}:Pfx may imE:=fun x y r s _ _ h=>by
 obtain ⟨x1,x2,x3⟩:=x;obtain ⟨y1,y2,y3⟩:=y;simp only [imE,qXe,List.cons_append] at h;obtain ⟨h1,h2⟩:=nm_pfx (may:=fun _=>True) _ _ _ _ trivial trivial h;obtain ⟨h3,h4⟩:=nm_pfx (may:=fun _=>True) _ _ _ _ trivial trivial h2;simp only [List.cons.injEq,true_and] at h4;obtain ⟨h5,h6⟩:=encU_pfx 9 _ _ _ _ h4;exact ⟨by rw [h1,h3,h5],h6⟩
theorem li_pfx:Pfx (fun x:MLi=>x.has=true) liE:=fun x y r s hx hy h=>by
 obtain ⟨x1,x2,x3⟩:=x;obtain ⟨y1,y2,y3⟩:=y;dsimp only at hx hy;subst hx hy;unfold liE at h;dsimp only at h;by_cases e1:x3=-1
 ·rw [if_pos e1] at h;by_cases e2:y3=-1
  ·rw [if_pos e2] at h;simp only [List.cons_append,List.cons.injEq,true_and] at h;obtain ⟨h1,h2⟩:=encU_pfx 9 _ _ _ _ h;exact ⟨by rw [h1,e1,e2],h2⟩
  ·rw [if_neg e2] at h;simp at h
 ·rw [if_neg e1] at h;by_cases e2:y3=-1
  ·rw [if_pos e2] at h;simp at h
  ·rw [if_neg e2] at h;simp only [List.cons_append,List.cons.injEq,true_and,qXe] at h;obtain ⟨h1,h2⟩:=encU_pfx 9 _ _ _ _ h;obtain ⟨h3,h4⟩:=encU_pfx 9 _ _ _ _ h2;exact ⟨by rw [h1,h3],h4⟩
theorem ta_pfx:Pfx (fun x:MLi=>x.has=true) taE:=fun x y r s hx hy h=>by
 simp only [taE,List.cons_append,List.cons.injEq,true_and] at h;exact li_pfx x y r s hx hy h
theorem cst_pfx {k n k' n':Int} {r s:List Int} (h1:uN (if k=2 then 66 else 65) n 0 []=true) (h2:-9223372036854775808 <= n /\ n <= 9223372036854775807) (h1':uN (if k'=2 then 66 else 65) n' 0 []=true) (h2':-9223372036854775808 <= n' /\ n' <= 9223372036854775807)
    (h:qBk k n ++ r=qBk k' n' ++ s):n=n' /\ r=s:=by
 unfold qBk at h
 rw [qXe,qXe] at h
 have e1:=qA5 _ n 0 [] ([11] ++ r) h1 h2
 have e2:=qA5 _ n' 0 [] ([11] ++ s) h1' h2'
 rw [h] at e1
 have e3:=e1.symm.trans e2
 simp only [Prod.mk.injEq,Ins.mk.injEq] at e3
 have h4:=(List.append_inj h e3.2.1).2
 simp only [List.cons_append,List.nil_append,List.cons.injEq,true_and] at h4
 exact ⟨e3.1.2.1,h4⟩
theorem gl_pfx:Pfx (fun g:MGl=>yY g=true /\ -9223372036854775808 <= g.n /\ g.n <= 9223372036854775807) glE:=fun x y r s hx hy h=>by
 obtain ⟨x1,x2,x3⟩:=x;obtain ⟨y1,y2,y3⟩:=y;simp only [yY] at hx hy;simp only [glE,List.cons_append,List.cons.injEq] at h;obtain ⟨h1,h2,h3⟩:=h;obtain ⟨h4,h5⟩:=cst_pfx (qH7 _ _ hx.1) hx.2 (qH7 _ _ hy.1) hy.2 h3;refine ⟨?_,h5⟩
 have hk:∀ k n,uX k n=true -> k=1 ∨ k=2:=fun k n h=>by
  unfold uX at h;split at h
  ·exact .inl (by assumption)
  ·exact .inr (by simpa using h)
 have e1:x1=y1:=by cases x1 <;> cases y1 <;> simp_all [muB]
 have e2:x2=y2:=by rcases hk _ _ hx.1 with rfl | rfl <;> rcases hk _ _ hy.1 with rfl | rfl <;> simp [kB] at h1 ⊢
 rw [e1,e2,h4]
theorem ex_pfx {may:MEx -> Prop}:Pfx may exE:=fun x y r s _ _ h=>by
 obtain ⟨x1,x2⟩:=x;obtain ⟨y1,y2⟩:=y;simp only [exE,qXe,List.cons_append] at h;obtain ⟨h1,h2⟩:=nm_pfx (may:=fun _=>True) _ _ _ _ trivial trivial h;simp only [List.cons.injEq,true_and] at h2;obtain ⟨h3,h4⟩:=encU_pfx 9 _ _ _ _ h2;exact ⟨by rw [h1,h3],h4⟩
theorem off_cst {n:Int} (h:j6 n=true):uN (if (1:Int)=2 then 66 else 65) n 0 []=true /\ -9223372036854775808 <= n /\ n <= 9223372036854775807:=by
 simp only [j6,qXi,decide_eq_true_eq] at h;exact ⟨qH7 1 n (by simp [uX];omega),by omega,by omega⟩
theorem el_pfx:Pfx (fun e=>zT e=true) elE:=fun x y r s hx hy h=>by
 obtain ⟨x1,x2⟩:=x;obtain ⟨y1,y2⟩:=y;simp only [zT,qXi] at hx hy;simp only [elE,List.cons_append,List.cons.injEq,true_and,qXe] at h;obtain ⟨h1,h2⟩:=cst_pfx (off_cst hx.1.1).1 (off_cst hx.1.1).2 (off_cst hy.1.1).1 (off_cst hy.1.1).2 h;obtain ⟨h3,h4⟩:=vec_pfx (num_pfx (may:=fun _=>True)) (fun _ _=>trivial) (fun _ _=>trivial) h2;exact ⟨by rw [h1,h3],h4⟩
theorem da_pfx:Pfx (fun e=>zG e=true) daE:=fun x y r s hx hy h=>by
 obtain ⟨x1,x2⟩:=x;obtain ⟨y1,y2⟩:=y;simp only [zG,qXi] at hx hy;simp only [daE,List.cons_append,List.cons.injEq,true_and,qXe] at h;obtain ⟨h1,h2⟩:=cst_pfx (off_cst hx.1).1 (off_cst hx.1).2 (off_cst hy.1).1 (off_cst hy.1).2 h;obtain ⟨h3,h4⟩:=sz_pfx h2;exact ⟨by rw [h1,h3],h4⟩
theorem ru_pfx:Pfx (fun r:Int × Int=>yG r.2=true) ruE:=fun x y r s hx hy h=>by
 obtain ⟨x1,x2⟩:=x;obtain ⟨y1,y2⟩:=y;simp only [ruE,qXe] at h;obtain ⟨h1,h2⟩:=encU_pfx 9 _ _ _ _ h;obtain ⟨h3,h4⟩:=k_pfx _ _ _ _ hx hy h2;exact ⟨by rw [h1,show x2=y2 from h3],h4⟩
theorem co_pfx:Pfx (fun c:MCo=>zM c=true /\ ∀ I ∈ c.body,okI I) coE:=fun x y r s hx hy h=>by
 obtain ⟨x1,x2⟩:=x;obtain ⟨y1,y2⟩:=y;simp only [zM,qAm,qXi] at hx hy;obtain ⟨⟨⟨_,hx1⟩,hx2,hx3⟩,hx4⟩:=hx;obtain ⟨⟨⟨_,hy1⟩,hy2,hy3⟩,hy4⟩:=hy;obtain ⟨h1,h2⟩:=sz_pfx h;obtain ⟨h3,h4⟩:=vec_pfx ru_pfx (fun z hz=>all_mem hx1 _ (qNr _ z hz)) (fun z hz=>all_mem hy1 _ (qNr _ z hz)) h1;obtain ⟨bx,hbx⟩:=Option.isSome_iff_exists.1 hx2;obtain ⟨bz,hbz⟩:=Option.isSome_iff_exists.1 hy2;have e1:=qPm [] hbx (all_mem hx3) hx4;have e2:=qPm [] hbz (all_mem hy3) hy4;rw [h4] at e1;have e3:=congrArg Prod.fst (e1.symm.trans e2);refine ⟨?_,h2⟩;have e4:x1=y1:=by rw [<- vJ x1,<- vJ y1,h3]
 rw [e4,show x2=y2 from e3]
theorem sec_pfx {α:Type} {k:Int} {may:α -> Prop} {f:α -> List Int} (hf:Pfx may f) {xs ys:List α} {r s:List Int} (hx:∀ x ∈ xs,may x) (hy:∀ y ∈ ys,may y) (hr:qAf k r) (hs:qAf k s) (h:qL k f xs ++ r=qL k f ys ++ s):xs=ys /\ r=s:=by
 have hne:∀ (a:α) (l:List α) (q t:List Int),qAf k t -> qL k f (a :: l) ++ q=t -> False:=by
  intro a l q t ht e;simp only [qL,List.cons_append] at e;subst e;rcases ht with ht | ⟨j,q,ht,hj⟩
  ·cases ht
  ·simp only [List.cons.injEq] at ht;exact hj ht.1.symm
 cases xs with
 | nil =>
   cases ys with
   | nil=>exact ⟨rfl,by simpa [qL] using h⟩
   | cons b l=>exact (hne b l s r hr (by rw [<- h];rfl)).elim
 | cons a q =>
   cases ys with
   | nil=>exact (hne a q r s hs (by rw [h];rfl)).elim
   | cons b l =>
     simp only [qL,List.cons_append,List.cons.injEq,true_and] at h;obtain ⟨h1,h2⟩:=sz_pfx h;have h3:qT f (a :: q) ++ []=qT f (b :: l) ++ []:=by rw [h1]
     exact ⟨(vec_pfx hf hx hy h3).1,h2⟩
def GtK (k:Int) (t:List Int):Prop:=t=[] ∨ ∃ b r,t=b :: r /\ k < b
theorem GtK.no {k:Int} {t:List Int} (h:GtK k t):qAf k t:=h.imp id fun ⟨b,r,e,h⟩=>⟨b,r,e,by omega⟩
theorem gt_sec {α:Type} (k j:Int) (f:α -> List Int) (xs:List α) (t:List Int) (hj:k < j) (h:GtK j t):GtK k (qL j f xs ++ t):=by
 cases xs with
 | nil=>exact h.imp id fun ⟨b,r,e,h⟩=>⟨b,r,e,by omega⟩
 | cons a l=>exact .inr ⟨j,_,rfl,hj⟩
theorem mem_present {x y:MLi} (h:y ∈ jB x):y.has=true:=by
 unfold jB at h;split at h
 ·simp at h;subst h;assumption
 ·cases h
theorem present_inj {x y:MLi} {a b:Int} (hx:zS x a b=true) (hy:zS y a b=true) (h:jB x=jB y):x=y:=by
 obtain ⟨x1,x2,x3⟩:=x;obtain ⟨y1,y2,y3⟩:=y
 cases x1 <;> cases y1 <;> simp [jB,zS] at h hx hy ⊢
 ·omega
 ·exact h
theorem moE_inj {M N:MMo} (hM:jT M=true) (hN:jT N=true) (oM:MoOk M) (oN:MoOk N) (h:moE M=moE N):M=N:=by
 simp only [jT,qV,qXi] at hM hN;obtain ⟨⟨_,hM⟩,_⟩:=hM;obtain ⟨⟨_,hN⟩,_⟩:=hN;obtain ⟨⟨⟨⟨⟨⟨⟨⟨⟨a0,_⟩,_⟩,a3⟩,a4⟩,a5⟩,_⟩,a7⟩,a8⟩,a9⟩:=hM;obtain ⟨⟨⟨⟨⟨⟨⟨⟨⟨b0,_⟩,_⟩,b3⟩,b4⟩,b5⟩,_⟩,b7⟩,b8⟩,b9⟩:=hN;obtain ⟨gM,cM⟩:=oM;obtain ⟨gN,cN⟩:=oN;obtain ⟨T,I,F,ta,me,G,E,L,C,D⟩:=M;obtain ⟨T',I',F',ta',me',G',E',L',C',D'⟩:=N;dsimp only at a0 a3 a4 a5 a7 a8 a9 b0 b3 b4 b5 b7 b8 b9 gM cM gN cN;unfold moE at h;dsimp only at h;have h:=List.append_cancel_left h;have q10:∀ D:List MDa,GtK 10 (qL 11 daE D):=fun D=>by have:=gt_sec 10 11 daE D [] (by decide) (.inl rfl);simpa using this
 have q9:=fun (C:List MCo) (D:List MDa)=>gt_sec 9 10 coE C _ (by decide) (q10 D)
 have q7:=fun (L:List MEl) (C:List MCo) (D:List MDa)=>gt_sec 7 9 elE L _ (by decide) (q9 C D)
 have q6:=fun (E:List MEx) (L:List MEl) (C:List MCo) (D:List MDa)=>gt_sec 6 7 exE E _ (by decide) (q7 L C D)
 have q5:=fun (G:List MGl) (E:List MEx) (L:List MEl) (C:List MCo) (D:List MDa)=>gt_sec 5 6 glE G _ (by decide) (q6 E L C D)
 have q4:=fun (P:List MLi) (G:List MGl) (E:List MEx) (L:List MEl) (C:List MCo) (D:List MDa)=>gt_sec 4 5 liE P _ (by decide) (q5 G E L C D)
 have q3:=fun (Q:List MLi) (P:List MLi) (G:List MGl) (E:List MEx) (L:List MEl) (C:List MCo) (D:List MDa)=>gt_sec 3 4 taE Q _ (by decide) (q4 P G E L C D)
 have q2:=fun (F:List Int) (Q:List MLi) (P:List MLi) (G:List MGl) (E:List MEx) (L:List MEl) (C:List MCo) (D:List MDa)=>gt_sec 2 3 jG F _ (by decide) (q3 Q P G E L C D)
 have q1:=fun (I:List MIm) (F:List Int) (Q:List MLi) (P:List MLi) (G:List MGl) (E:List MEx) (L:List MEl) (C:List MCo) (D:List MDa)=>gt_sec 1 2 imE I _ (by decide) (q2 F Q P G E L C D)
 obtain ⟨e0,h⟩:=sec_pfx ty_pfx (all_mem a0) (all_mem b0) (q1 _ _ _ _ _ _ _ _ _).no (q1 _ _ _ _ _ _ _ _ _).no h;obtain ⟨e1,h⟩:=sec_pfx (im_pfx (may:=fun _=>True)) (fun _ _=>trivial) (fun _ _=>trivial) (q2 _ _ _ _ _ _ _ _).no (q2 _ _ _ _ _ _ _ _).no h;obtain ⟨e2,h⟩:=sec_pfx (num_pfx (may:=fun _=>True)) (fun _ _=>trivial) (fun _ _=>trivial) (q3 _ _ _ _ _ _ _).no (q3 _ _ _ _ _ _ _).no h;obtain ⟨e3,h⟩:=sec_pfx ta_pfx (fun _ hz=>mem_present hz) (fun _ hz=>mem_present hz) (q4 _ _ _ _ _ _).no (q4 _ _ _ _ _ _).no h;obtain ⟨e4,h⟩:=sec_pfx li_pfx (fun _ hz=>mem_present hz) (fun _ hz=>mem_present hz) (q5 _ _ _ _ _).no (q5 _ _ _ _ _).no h;obtain ⟨e5,h⟩:=sec_pfx gl_pfx (fun z hz=>⟨all_mem a5 z hz,gM z hz⟩) (fun z hz=>⟨all_mem b5 z hz,gN z hz⟩) (q6 _ _ _ _).no (q6 _ _ _ _).no h;obtain ⟨e6,h⟩:=sec_pfx (ex_pfx (may:=fun _=>True)) (fun _ _=>trivial) (fun _ _=>trivial) (q7 _ _ _).no (q7 _ _ _).no h;obtain ⟨e7,h⟩:=sec_pfx el_pfx (all_mem a7) (all_mem b7) (q9 _ _).no (q9 _ _).no h;obtain ⟨e8,h⟩:=sec_pfx co_pfx (fun z hz=>⟨all_mem a8 z hz,cM z hz⟩) (fun z hz=>⟨all_mem b8 z hz,cN z hz⟩) (q10 _).no (q10 _).no h;obtain ⟨e9,_⟩:=sec_pfx (k:=11) (r:=[]) (s:=[]) da_pfx (all_mem a9) (all_mem b9) (xI _) (xI _) (by rw [List.append_nil,List.append_nil];exact h);rw [e0,e1,e2,present_inj a3 b3 e3,present_inj a4 b4 e4,e5,e6,e7,e8,e9]
theorem eqMo_iff (M N:MMo):qAr M N=true ↔ M=N:=by
 constructor
 ·intro h;simp only [qAr,qXi] at h;obtain ⟨⟨⟨⟨⟨⟨⟨⟨⟨h0,h1⟩,h2⟩,h3⟩,h4⟩,h5⟩,h6⟩,h7⟩,h8⟩,h9⟩:=h;obtain ⟨T,I,F,⟨t1,t2,t3⟩,⟨m1,m2,m3⟩,G,E,L,C,D⟩:=M;obtain ⟨T',I',F',⟨t1',t2',t3'⟩,⟨m1',m2',m3'⟩,G',E',L',C',D'⟩:=N;have e0:=(qS0 (e:=qHx) (fun x y=>by cases x;cases y;simp [qHx]) _ _).1 h0;have e1:=(qS0 (e:=qEx) (fun x y=>by cases x;cases y;simp [qEx]) _ _).1 h1;have e5:=(qS0 (e:=qEy) (fun x y=>by cases x;cases y;simp [qEy]) _ _).1 h5;have e6:=(qS0 (e:=qFw) (fun x y=>by cases x;cases y;simp [qFw]) _ _).1 h6;have e7:=(qS0 (e:=qHq) (fun x y=>by cases x;cases y;simp [qHq]) _ _).1 h7
  have e8:=(qS0 (e:=qGh) (fun x y=>by
   cases x;cases y
   simp only [qGh,qXi,beq_iff_eq,MCo.mk.injEq]
   rw [qS0 (e:=fun I J:Ins=>eqI I.op I.a I.b I.l J.op J.a J.b J.l) (fun x y=>by cases x;cases y;simp [eqI])]) _ _).1 h8
  have e9:=(qS0 (e:=qHr) (fun x y=>by cases x;cases y;simp [qHr]) _ _).1 h9;simp only [qL9,qXi,beq_iff_eq] at h2 h3 h4;dsimp only at e0 e1 e5 e6 e7 e8 e9 h2 h3 h4;obtain ⟨rfl,rfl,rfl⟩:=h3;obtain ⟨rfl,rfl,rfl⟩:=h4;rw [e0,e1,e5,e6,e7,e8,e9,h2]
 ·rintro rfl;exact qOg _
def IsSt (s:ByteArray) (xs:List Int):Value -> World -> Prop:=fun v _=>v=.string s /\ ∀ x ∈ xs,0 <= x /\ x <= 255
theorem qB.st (s:ByteArray) (xs:List Int):qB (IsSt s xs):=fun _ _ _ h _=>h
theorem mo_text {M N:MMo} (hM:jT M=true) (hN:jT N=true) (oM:MoOk M) (oN:MoOk N) (bM:∀ x ∈ moE M,0 <= x /\ x <= 255) (bN:∀ x ∈ moE N,0 <= x /\ x <= 255):((strOfNums (moE N)).toList == (strOfNums (moE M)).toList)=qAr M N:=by
 rw [Bool.eq_iff_iff,beq_iff_eq,eqMo_iff];constructor
 ·intro h;exact moE_inj hM hN oM oN (qAt bN bM (qEd h)).symm
 ·rintro rfl;rfl
end Go.Proofs.YtbkofpljchkkaaaGreat
