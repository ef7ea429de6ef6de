/- Words: WD. -/
import Derived.Test.YtbkofpljchkkaaaGreatWC
import Derived.Test.YtbkofpljchkkaaaGreatWA
import Derived.Test.YtbkofpljchkkaaaGreatWB
import Derived.Test.YtbkofpljchkkaaaGreatWE
set_option maxRecDepth 100000
set_option maxHeartbeats 4000000
namespace Go.Proofs.YtbkofpljchkkaaaGreat
open Go.RowKit
theorem xI (k:Int):qAf k []:=.inl rfl
theorem qP {α:Type} (k j:Int) (f:α -> List Int) (xs:List α) (t:List Int) (hj:j ≠ k) (h:qAf k t):qAf k (qL j f xs ++ t):=by
 cases xs with
 | nil=>exact h
 | cons x r=>exact .inr ⟨j,_,rfl,hj⟩
theorem yM {α:Type} (k:Int) (f:α -> List Int) (xs:List α):(qT f xs).length <= (qL k f xs).length + 10:=by
 cases xs with
 | nil=>simp [qT,qL,qZ]
 | cons x r =>
   show _ <= (k :: szE (qT f (x :: r))).length + 10;unfold szE;simp only [qXg,qW7];omega
theorem qMk {α:Type} (f:α -> List Int):∀ (l:List α),(∀ x ∈ l,0 < (f x).length) -> l.length <= (l.flatMap f).length
 | [],_=>by simp
 | x :: r,h=>by
   have h1:=h x (by simp);have h2:=qMk f r (fun y hy=>h y (by simp [hy]));rw [List.flatMap_cons,qW7,qXg];omega
theorem qAa {α:Type} (f:α -> List Int) (l:List α) (h:∀ x ∈ l,0 < (f x).length):l.length <= (qT f l).length:=by
 have:=qMk f l h;unfold qT;rw [qW7];omega
theorem qJ8:∀ args w,(callFunc 104 args).run Tryz.prog w=.ok (.enter 104 args) w:=enters_of Tryz.func104 (by kernel_rfl) rfl
theorem qF2:∀ args w,(callFunc 106 args).run Tryz.prog w=.ok (.enter 106 args) w:=enters_of Tryz.func106 (by kernel_rfl) rfl
theorem qHv:∀ args w,(callFunc 111 args).run Tryz.prog w=.ok (.enter 111 args) w:=enters_of Tryz.func111 (by kernel_rfl) rfl
theorem qF3:∀ args w,(callFunc 112 args).run Tryz.prog w=.ok (.enter 112 args) w:=enters_of Tryz.func112 (by kernel_rfl) rfl
theorem qF4:∀ args w,(callFunc 114 args).run Tryz.prog w=.ok (.enter 114 args) w:=enters_of Tryz.func114 (by kernel_rfl) rfl
theorem qF5:∀ args w,(callFunc 116 args).run Tryz.prog w=.ok (.enter 116 args) w:=enters_of Tryz.func116 (by kernel_rfl) rfl
theorem qJ9:∀ args w,(callFunc 118 args).run Tryz.prog w=.ok (.enter 118 args) w:=enters_of Tryz.func118 (by kernel_rfl) rfl
theorem qKa:∀ args w,(callFunc 120 args).run Tryz.prog w=.ok (.enter 120 args) w:=enters_of Tryz.func120 (by kernel_rfl) rfl
theorem qKb:∀ args w,(callFunc 122 args).run Tryz.prog w=.ok (.enter 122 args) w:=enters_of Tryz.func122 (by kernel_rfl) rfl
theorem qKc (K p:Nat) (xs:List MTy) (tail:List Int) (w:World) (h:Rdw K p w (qL 1 tyE xs ++ tail)) (hnk:qAf 1 tail) (hsz:(qL 1 tyE xs).length <= 8000) (hm:xs.all xL=true) :
    Calls Tryz.prog 103 #[rp p,.int .u8 1,.func (.func 104) #[] #[]] w fun e w'=>∃ v,e=.returned v /\ OwnG 53 2 (TyR) w.heap.size w' v xs /\ Rdw K p w' tail /\ w.grownBy w' (some p):=by
 have hpos:∀ x ∈ xs,0 < (tyE x).length:=fun x _=>by simp [tyE]
 have hv:=yM 1 tyE xs
 have hg:=qAa tyE xs hpos
 exact qUf 1 _ tyE K p xs tail w h hnk qJ8 (by omega) (by omega) hpos fun w x t hx hr=>by
  have hk:=qXb.1 hm x hx;simp only [xL,qXi,decide_eq_true_eq] at hk;exact qL3 K p x.ps x.rs t w hr (by omega) (by omega) hk.1.2 hk.2
theorem qF6 (K p:Nat) (xs:List MIm) (tail:List Int) (w:World) (h:Rdw K p w (qL 2 imE xs ++ tail)) (hnk:qAf 2 tail) (hsz:(qL 2 imE xs).length <= 8000) (hm:xs.all xD=true) :
    Calls Tryz.prog 105 #[rp p,.int .u8 2,.func (.func 106) #[] #[]] w fun e w'=>∃ v,e=.returned v /\ OwnG 62 3 (ImR) w.heap.size w' v xs /\ Rdw K p w' tail /\ w.grownBy w' (some p):=by
 have hpos:∀ x ∈ xs,0 < (imE x).length:=fun x _=>by simp [imE];omega
 have hv:=yM 2 imE xs
 have hg:=qAa imE xs hpos
 exact qUg 2 _ imE K p xs tail w h hnk qF2 (by omega) (by omega) hpos fun w x t hx hr=>by
  have hk:=qXb.1 hm x hx;simp only [xD,zF,jQ,qXi,decide_eq_true_eq] at hk;exact qHk K p x.mod x.name x.typ t w hr (by omega) (by omega) hk.2.1 hk.2.2
theorem qKd (K p:Nat) (xs:List Int) (tail:List Int) (w:World) (h:Rdw K p w (qL 3 jG xs ++ tail)) (hnk:qAf 3 tail) (hsz:(qL 3 jG xs).length <= 8000) (hm:xs.all jQ=true) :
    Calls Tryz.prog 107 #[rp p,.int .u8 3,.func (.func 108) #[] #[]] w fun e w'=>∃ v,e=.returned v /\ OwnG 3 1 (IR .i64) w.heap.size w' v xs /\ Rdw K p w' tail /\ w.grownBy w' (some p):=by
 have hpos:∀ x ∈ xs,0 < (jG x).length:=fun x _=>by exact qFp x
 have hv:=yM 3 jG xs
 have hg:=qAa jG xs hpos
 exact qVp 3 _ jG K p xs tail w h hnk qCb (by omega) (by omega) hpos fun w x t hx hr=>by
  have hk:=qXb.1 hm x hx;simp [jQ] at hk;refine (qI K p w x t hk.1 (by omega) hr).mono ?_;rintro e w' ⟨rfl,hr',hg'⟩;exact ⟨[.int .i64 x],rfl,Bx.pure ⟨rfl,WalkArith.wf_i64 (by omega)⟩,hr',hg'⟩
theorem qHw (K p:Nat) (xs:List MLi) (tail:List Int) (w:World) (h:Rdw K p w (qL 4 taE xs ++ tail)) (hnk:qAf 4 tail) (hsz:(qL 4 taE xs).length <= 8000) (hm:∀ y ∈ xs,y.has=true /\ 0 <= y.mn /\ y.mn <= 100000 /\ -1 <= y.mx /\ y.mx <= 100000) :
    Calls Tryz.prog 110 #[rp p,.int .u8 4,.func (.func 111) #[] #[]] w fun e w'=>∃ v,e=.returned v /\ OwnG 26 3 (LiR) w.heap.size w' v xs /\ Rdw K p w' tail /\ w.grownBy w' (some p):=by
 have hpos:∀ x ∈ xs,0 < (taE x).length:=fun x _=>by simp [taE]
 have hv:=yM 4 taE xs
 have hg:=qAa taE xs hpos
 exact qOp 4 _ taE K p xs tail w h hnk qHv (by omega) (by omega) hpos fun w x t hx hr=>by
  obtain ⟨h1,h2,h3,h4,h5⟩:=hm x hx;obtain ⟨xh,xm,xx⟩:=x;simp only at h1 h2 h3 h4 h5;subst h1;exact qIw K p xm xx t w hr h2 h3 h4 h5
theorem qMl (K p:Nat) (xs:List MLi) (tail:List Int) (w:World) (h:Rdw K p w (qL 5 liE xs ++ tail)) (hnk:qAf 5 tail) (hsz:(qL 5 liE xs).length <= 8000) (hm:∀ y ∈ xs,y.has=true /\ 0 <= y.mn /\ y.mn <= 100000 /\ -1 <= y.mx /\ y.mx <= 100000) :
    Calls Tryz.prog 110 #[rp p,.int .u8 5,.func (.func 112) #[] #[]] w fun e w'=>∃ v,e=.returned v /\ OwnG 26 3 (LiR) w.heap.size w' v xs /\ Rdw K p w' tail /\ w.grownBy w' (some p):=by
 have hpos:∀ x ∈ xs,0 < (liE x).length:=fun x _=>by unfold liE;split <;> simp
 have hv:=yM 5 liE xs
 have hg:=qAa liE xs hpos
 exact qOp 5 _ liE K p xs tail w h hnk qF3 (by omega) (by omega) hpos fun w x t hx hr=>by
  obtain ⟨h1,h2,h3,h4,h5⟩:=hm x hx;obtain ⟨xh,xm,xx⟩:=x;simp only at h1 h2 h3 h4 h5;subst h1;exact qCc K p xm xx t w hr h2 h3 h4 h5
theorem qF7 (K p:Nat) (xs:List MGl) (tail:List Int) (w:World) (h:Rdw K p w (qL 6 glE xs ++ tail)) (hnk:qAf 6 tail) (hsz:(qL 6 glE xs).length <= 8000) (hm:xs.all yY=true) (hn:∀ x ∈ xs,-9223372036854775808 <= x.n /\ x.n <= 9223372036854775807) :
    Calls Tryz.prog 113 #[rp p,.int .u8 6,.func (.func 114) #[] #[]] w fun e w'=>∃ v,e=.returned v /\ OwnG 58 3 (GlR) w.heap.size w' v xs /\ Rdw K p w' tail /\ w.grownBy w' (some p):=by
 have hpos:∀ x ∈ xs,0 < (glE x).length:=fun x _=>by simp [glE]
 have hv:=yM 6 glE xs
 have hg:=qAa glE xs hpos
 exact qUh 6 _ glE K p xs tail w h hnk qF4 (by omega) (by omega) hpos fun w x t hx hr=>by
  have hk:=qXb.1 hm x hx;have hb:=hn x hx;obtain ⟨m,k,n⟩:=x
  cases m
  ·exact qFr K p k n t w hr hk hb
  ·exact qFq K p k n t w hr hk hb
theorem qF8 (K p:Nat) (xs:List MEx) (tail:List Int) (w:World) (h:Rdw K p w (qL 7 exE xs ++ tail)) (hnk:qAf 7 tail) (hsz:(qL 7 exE xs).length <= 8000) (hm:xs.all xM=true) :
    Calls Tryz.prog 115 #[rp p,.int .u8 7,.func (.func 116) #[] #[]] w fun e w'=>∃ v,e=.returned v /\ OwnG 60 2 (ExR) w.heap.size w' v xs /\ Rdw K p w' tail /\ w.grownBy w' (some p):=by
 have hpos:∀ x ∈ xs,0 < (exE x).length:=fun x _=>by simp [exE];omega
 have hv:=yM 7 exE xs
 have hg:=qAa exE xs hpos
 exact qUi 7 _ exE K p xs tail w h hnk qF5 (by omega) (by omega) hpos fun w x t hx hr=>by
  have hk:=qXb.1 hm x hx;simp only [xM,zF,jQ,qXi,decide_eq_true_eq] at hk;exact qHl K p x.name x.fn t w hr (by omega) hk.2.1 hk.2.2
theorem qKe (K p:Nat) (xs:List MEl) (tail:List Int) (w:World) (h:Rdw K p w (qL 9 elE xs ++ tail)) (hnk:qAf 9 tail) (hsz:(qL 9 elE xs).length <= 8000) (hm:xs.all zT=true) :
    Calls Tryz.prog 117 #[rp p,.int .u8 9,.func (.func 118) #[] #[]] w fun e w'=>∃ v,e=.returned v /\ OwnG 67 2 (ElR) w.heap.size w' v xs /\ Rdw K p w' tail /\ w.grownBy w' (some p):=by
 have hpos:∀ x ∈ xs,0 < (elE x).length:=fun x _=>by simp [elE]
 have hv:=yM 9 elE xs
 have hg:=qAa elE xs hpos
 exact qUj 9 _ elE K p xs tail w h hnk qJ9 (by omega) (by omega) hpos fun w x t hx hr=>by
  have hk:=qXb.1 hm x hx;simp only [zT,qXi,decide_eq_true_eq] at hk;exact qL4 K p x.off x.fs t w hr hk.1.1 (by omega) hk.2
theorem qKf (K p:Nat) (xs:List MCo) (tail:List Int) (w:World) (h:Rdw K p w (qL 10 coE xs ++ tail)) (hnk:qAf 10 tail) (hsz:(qL 10 coE xs).length <= 8000) (hm:xs.all zM=true) (hok:∀ x ∈ xs,∀ I ∈ x.body,okI I) :
    Calls Tryz.prog 119 #[rp p,.int .u8 10,.func (.func 120) #[] #[]] w fun e w'=>∃ v,e=.returned v /\ OwnG 49 2 (CoR) w.heap.size w' v xs /\ Rdw K p w' tail /\ w.grownBy w' (some p):=by
 have hpos:∀ x ∈ xs,0 < (coE x).length:=fun x _=>by unfold coE szE;rw [qW7];have:=qFp (qT ruE (zV x.ls) ++ (jN x.body ++ [11])).length;unfold jG at this;omega
 have hv:=yM 10 coE xs
 have hg:=qAa coE xs hpos
 exact qUk 10 _ coE K p xs tail w h hnk qKa (by omega) (by omega) hpos fun w x t hx hr=>by
  have hk:=qXb.1 hm x hx;simp only [zM,qXi,decide_eq_true_eq] at hk;exact qL6 K p x.ls x.body t w hr hk.1.1 hk.1.2 hk.2 (hok x hx)
theorem qKg (K p:Nat) (xs:List MDa) (tail:List Int) (w:World) (h:Rdw K p w (qL 11 daE xs ++ tail)) (hnk:qAf 11 tail) (hsz:(qL 11 daE xs).length <= 8000) (hm:xs.all zG=true) :
    Calls Tryz.prog 121 #[rp p,.int .u8 11,.func (.func 122) #[] #[]] w fun e w'=>∃ v,e=.returned v /\ OwnG 44 2 (DaR) w.heap.size w' v xs /\ Rdw K p w' tail /\ w.grownBy w' (some p):=by
 have hpos:∀ x ∈ xs,0 < (daE x).length:=fun x _=>by simp [daE]
 have hv:=yM 11 daE xs
 have hg:=qAa daE xs hpos
 exact qUl 11 _ daE K p xs tail w h hnk qKb (by omega) (by omega) hpos fun w x t hx hr=>by
  have hk:=qXb.1 hm x hx;simp only [zG,qXi,decide_eq_true_eq] at hk;exact qL7 K p x.off x.bs t w hr hk.1 hk.2
theorem qKh (ao:Option Addr) (cap:Nat) (w:World):Calls Tryz.prog 109 #[.slice ao 0 cap] w fun e w'=>e=.returned (.agg #[.bool false,.int .i64 0,.int .i64 0]) /\ Below w.heap.size w w':=by
 go_enter Tryz.func109,Tryz.ntmps109;go_wp2_with fail;go_returns;exact ⟨rfl,Bl.alloc (Bl.refl w) _⟩
theorem qF9 (x:MLi) (B:Nat) (v:Value) (w:World) (h:OwnG 26 3 LiR B w v (jB x)) (hz:x.has=false -> x.mn=0 /\ x.mx=0) :
    Calls Tryz.prog 109 #[v] w fun e w'=>e=.returned (.agg #[.bool x.has,.int .i64 x.mn,.int .i64 x.mx]) /\ Below w.heap.size w w':=by
 obtain ⟨xh,xm,xx⟩:=x
 cases xh with
 | false =>
   obtain ⟨rfl,rfl⟩:=hz rfl;obtain ⟨ao,cap,rfl,_,_,_⟩:=h.shape;exact qKh ao cap w
 | true =>
   obtain ⟨ao,cap,rfl,hr⟩:=h.rx;exact qL8 ⟨true,xm,xx⟩ ao cap w hr
open Go.RowKit
structure MoOk (M:MMo):Prop where
 gl:∀ x ∈ M.globals,-9223372036854775808 <= x.n /\ x.n <= 9223372036854775807
 co:∀ x ∈ M.codes,∀ I ∈ x.body,okI I
theorem qMm {x:MLi} {a b:Int} (ha:a <= 100000) (hb:b <= 100000) (h:zS x a b=true):(∀ y ∈ jB x,y.has=true /\ 0 <= y.mn /\ y.mn <= 100000 /\ -1 <= y.mx /\ y.mx <= 100000) /\ (x.has=false -> x.mn=0 /\ x.mx=0):=by
 obtain ⟨xh,xm,xx⟩:=x
 cases xh with
 | false=>simpa [jB,zS] using h
 | true =>
   refine ⟨fun y hy=>?_,fun h=>by cases h⟩;simp [jB] at hy;subst hy;simp [zS] at h;refine ⟨rfl,?_⟩;show 0 <= xm /\ xm <= 100000 /\ -1 <= xx /\ xx <= 100000;omega
theorem zW {w a b:World} {p:Nat} (h:Below w.heap.size w a) (g:a.grownBy b (some p)) (hp:w.heap.size <= p):Below w.heap.size w b :=
 h.grown g h.size fun k hk=>by cases hk;exact hp
theorem qI7 (bo:Option Addr) (m bc:Nat) (T:List MTy) (I:List MIm) (F:List Int) (th:Bool) (tm tx:Int) (mh:Bool) (mm mx:Int) (G:List MGl) (E:List MEx) (L:List MEl) (C:List MCo) (D:List MDa) (w:World)
    (pre:List Int) (h:Rd .u8 w bo m bc pre)
    (hpre:∀ (K p:Nat) (w:World),Rdw K p w pre -> Calls Tryz.prog 102 #[rp p,.int .i64 8] w fun e w'=>e=.returned (.tuple #[]) /\ Rdw K p w' (qL 1 tyE T ++ (qL 2 imE I ++ (qL 3 jG F ++ (qL 4 taE (jB ⟨th,tm,tx⟩) ++ (qL 5 liE (jB ⟨mh,mm,mx⟩) ++ (qL 6 glE G ++ (qL 7 exE E ++ (qL 9 elE L ++ (qL 10 coE C ++ (qL 11 daE D ++ [])))))))))) /\ w.grownBy w' (some p)) (hsz:(moE ⟨T,I,F,⟨th,tm,tx⟩,⟨mh,mm,mx⟩,G,E,L,C,D⟩).length <= 8000)
    (pT:T.all xL=true) (pI:I.all xD=true) (pF:F.all jQ=true) (pt:zS ⟨th,tm,tx⟩ 16 1000=true) (pm:zS ⟨mh,mm,mx⟩ 16 65536=true) (pG:G.all yY=true) (pE:E.all xM=true) (pL:L.all zT=true) (pC:C.all zM=true) (pD:D.all zG=true)
    (hG:∀ x ∈ G,-9223372036854775808 <= x.n /\ x.n <= 9223372036854775807) (hC:∀ x ∈ C,∀ I ∈ x.body,okI I) :
    Calls Tryz.prog 47 #[.slice bo m bc] w fun e w'=>∃ V:MoV,e=.returned (.agg (V.cells ⟨T,I,F,⟨th,tm,tx⟩,⟨mh,mm,mx⟩,G,E,L,C,D⟩).toArray) /\ Bx (fun b=>w.heap.size <= b /\ b < w'.heap.size) w' (MoR V ⟨T,I,F,⟨th,tm,tx⟩,⟨mh,mm,mx⟩,G,E,L,C,D⟩) /\ Below w.heap.size w w':=by
 obtain ⟨rt,zt⟩:=qMm (by decide) (by decide) pt
 obtain ⟨rm,zm⟩:=qMm (by decide) (by decide) pm
 obtain ⟨P4,hP4⟩:∃ P4,jB ⟨th,tm,tx⟩=P4:=⟨_,rfl⟩
 obtain ⟨P5,hP5⟩:∃ P5,jB ⟨mh,mm,mx⟩=P5:=⟨_,rfl⟩
 have hmo:moE ⟨T,I,F,⟨th,tm,tx⟩,⟨mh,mm,mx⟩,G,E,L,C,D⟩=yX ++ (qL 1 tyE T ++ (qL 2 imE I ++ (qL 3 jG F ++ (qL 4 taE P4 ++ (qL 5 liE P5 ++ (qL 6 glE G ++ (qL 7 exE E ++ (qL 9 elE L ++ (qL 10 coE C ++ (qL 11 daE D ++ [])))))))))):=by
  rw [<- hP4,<- hP5];simp [moE]
 rw [hmo] at hsz
 simp only [hP4,hP5] at hpre
 rw [hP4] at rt
 rw [hP5] at rm
 have s0:(qL 1 tyE T).length <= 8000:=by simp only [qW7] at hsz;omega
 have s1:(qL 2 imE I).length <= 8000:=by simp only [qW7] at hsz;omega
 have s2:(qL 3 jG F).length <= 8000:=by simp only [qW7] at hsz;omega
 have s3:(qL 4 taE P4).length <= 8000:=by simp only [qW7] at hsz;omega
 have s4:(qL 5 liE P5).length <= 8000:=by simp only [qW7] at hsz;omega
 have s5:(qL 6 glE G).length <= 8000:=by simp only [qW7] at hsz;omega
 have s6:(qL 7 exE E).length <= 8000:=by simp only [qW7] at hsz;omega
 have s7:(qL 9 elE L).length <= 8000:=by simp only [qW7] at hsz;omega
 have s8:(qL 10 coE C).length <= 8000:=by simp only [qW7] at hsz;omega
 have s9:(qL 11 daE D).length <= 8000:=by simp only [qW7] at hsz;omega
 have nk0:qAf 1 (qL 2 imE I ++ (qL 3 jG F ++ (qL 4 taE P4 ++ (qL 5 liE P5 ++ (qL 6 glE G ++ (qL 7 exE E ++ (qL 9 elE L ++ (qL 10 coE C ++ (qL 11 daE D ++ []))))))))):=qP _ _ _ _ _ (by decide) (qP _ _ _ _ _ (by decide) (qP _ _ _ _ _ (by decide) (qP _ _ _ _ _ (by decide) (qP _ _ _ _ _ (by decide) (qP _ _ _ _ _ (by decide) (qP _ _ _ _ _ (by decide) (qP _ _ _ _ _ (by decide) (qP _ _ _ _ _ (by decide) (xI _)))))))))
 have nk1:qAf 2 (qL 3 jG F ++ (qL 4 taE P4 ++ (qL 5 liE P5 ++ (qL 6 glE G ++ (qL 7 exE E ++ (qL 9 elE L ++ (qL 10 coE C ++ (qL 11 daE D ++ [])))))))):=qP _ _ _ _ _ (by decide) (qP _ _ _ _ _ (by decide) (qP _ _ _ _ _ (by decide) (qP _ _ _ _ _ (by decide) (qP _ _ _ _ _ (by decide) (qP _ _ _ _ _ (by decide) (qP _ _ _ _ _ (by decide) (qP _ _ _ _ _ (by decide) (xI _))))))))
 have nk2:qAf 3 (qL 4 taE P4 ++ (qL 5 liE P5 ++ (qL 6 glE G ++ (qL 7 exE E ++ (qL 9 elE L ++ (qL 10 coE C ++ (qL 11 daE D ++ []))))))):=qP _ _ _ _ _ (by decide) (qP _ _ _ _ _ (by decide) (qP _ _ _ _ _ (by decide) (qP _ _ _ _ _ (by decide) (qP _ _ _ _ _ (by decide) (qP _ _ _ _ _ (by decide) (qP _ _ _ _ _ (by decide) (xI _)))))))
 have nk3:qAf 4 (qL 5 liE P5 ++ (qL 6 glE G ++ (qL 7 exE E ++ (qL 9 elE L ++ (qL 10 coE C ++ (qL 11 daE D ++ [])))))):=qP _ _ _ _ _ (by decide) (qP _ _ _ _ _ (by decide) (qP _ _ _ _ _ (by decide) (qP _ _ _ _ _ (by decide) (qP _ _ _ _ _ (by decide) (qP _ _ _ _ _ (by decide) (xI _))))))
 have nk4:qAf 5 (qL 6 glE G ++ (qL 7 exE E ++ (qL 9 elE L ++ (qL 10 coE C ++ (qL 11 daE D ++ []))))):=qP _ _ _ _ _ (by decide) (qP _ _ _ _ _ (by decide) (qP _ _ _ _ _ (by decide) (qP _ _ _ _ _ (by decide) (qP _ _ _ _ _ (by decide) (xI _)))))
 have nk5:qAf 6 (qL 7 exE E ++ (qL 9 elE L ++ (qL 10 coE C ++ (qL 11 daE D ++ [])))):=qP _ _ _ _ _ (by decide) (qP _ _ _ _ _ (by decide) (qP _ _ _ _ _ (by decide) (qP _ _ _ _ _ (by decide) (xI _))))
 have nk6:qAf 7 (qL 9 elE L ++ (qL 10 coE C ++ (qL 11 daE D ++ []))):=qP _ _ _ _ _ (by decide) (qP _ _ _ _ _ (by decide) (qP _ _ _ _ _ (by decide) (xI _)))
 have nk7:qAf 9 (qL 10 coE C ++ (qL 11 daE D ++ [])):=qP _ _ _ _ _ (by decide) (qP _ _ _ _ _ (by decide) (xI _))
 have nk8:qAf 10 (qL 11 daE D ++ []):=qP _ _ _ _ _ (by decide) (xI _)
 have nk9:qAf 11 []:=xI _
 have HALL:=hid (And.intro pT (And.intro pI (And.intro pF (And.intro rt (And.intro rm (And.intro pG (And.intro pE (And.intro pL (And.intro pC (And.intro pD (And.intro hG (And.intro hC (And.intro zt zm)))))))))))))
 have HS:=hid (And.intro s0 (And.intro s1 (And.intro s2 (And.intro s3 (And.intro s4 (And.intro s5 (And.intro s6 (And.intro s7 (And.intro s8 s9)))))))))
 have HNK:=hid (And.intro nk0 (And.intro nk1 (And.intro nk2 (And.intro nk3 (And.intro nk4 (And.intro nk5 (And.intro nk6 (And.intro nk7 (And.intro nk8 nk9)))))))))
 have EP4:=hid hP4
 have EP5:=hid hP5
 have HA:Hid (Cel ((w.alloc (.cells #[.slice none 0 0,.slice none 0 0,.slice none 0 0,.bool false,.int .i64 0,.int .i64 0,.bool false,.int .i64 0,.int .i64 0,.slice none 0 0,.slice none 0 0,.slice none 0 0,.slice none 0 0,.slice none 0 0] 33)).alloc (.cells #[.slice bo m bc] 141)) w.heap.size [.slice none 0 0,.slice none 0 0,.slice none 0 0,.bool false,.int .i64 0,.int .i64 0,.bool false,.int .i64 0,.int .i64 0,.slice none 0 0,.slice none 0 0,.slice none 0 0,.slice none 0 0,.slice none 0 0]):=hid ((Cel.new w [.slice none 0 0,.slice none 0 0,.slice none 0 0,.bool false,.int .i64 0,.int .i64 0,.bool false,.int .i64 0,.int .i64 0,.slice none 0 0,.slice none 0 0,.slice none 0 0,.slice none 0 0,.slice none 0 0] 33).below (qW5 _) (Bl.alloc (Bl.refl _) _))
 have hpc:Cel ((w.alloc (.cells #[.slice none 0 0,.slice none 0 0,.slice none 0 0,.bool false,.int .i64 0,.int .i64 0,.bool false,.int .i64 0,.int .i64 0,.slice none 0 0,.slice none 0 0,.slice none 0 0,.slice none 0 0,.slice none 0 0] 33)).alloc (.cells #[.slice bo m bc] 141)) (w.heap.size + 1) [.slice bo m bc]:=by have:=Cel.new (w.alloc (.cells #[.slice none 0 0,.slice none 0 0,.slice none 0 0,.bool false,.int .i64 0,.int .i64 0,.bool false,.int .i64 0,.int .i64 0,.slice none 0 0,.slice none 0 0,.slice none 0 0,.slice none 0 0,.slice none 0 0] 33)) [.slice bo m bc] 141;simpa using this
 have HR:Hid (Rdw w.heap.size (w.heap.size + 1) ((w.alloc (.cells #[.slice none 0 0,.slice none 0 0,.slice none 0 0,.bool false,.int .i64 0,.int .i64 0,.bool false,.int .i64 0,.int .i64 0,.slice none 0 0,.slice none 0 0,.slice none 0 0,.slice none 0 0,.slice none 0 0] 33)).alloc (.cells #[.slice bo m bc] 141)) pre):=hid ⟨by omega,by simp,hpc.fro 0 _ rfl,bo,m,bc,hpc.cell 0 _ rfl,(Rd.rx h).keep fun b hb=>by rw [Below.heap_alloc _ _ _ (by simp;omega),Below.heap_alloc _ _ _ hb]⟩
 have HBL:Hid (Below w.heap.size w ((w.alloc (.cells #[.slice none 0 0,.slice none 0 0,.slice none 0 0,.bool false,.int .i64 0,.int .i64 0,.bool false,.int .i64 0,.int .i64 0,.slice none 0 0,.slice none 0 0,.slice none 0 0,.slice none 0 0,.slice none 0 0] 33)).alloc (.cells #[.slice bo m bc] 141))):=hid (Bl.alloc (Bl.alloc (Bl.refl w) _) _)
 clear h hsz hmo hP4 hP5 hpc pt pm pT pI pF rt rm pG pE pL pC pD hG hC zt zm s0 s1 s2 s3 s4 s5 s6 s7 s8 s9 nk0 nk1 nk2 nk3 nk4 nk5 nk6 nk7 nk8 nk9
 go_enter Tryz.func47,Tryz.ntmps47
 have hcall:=hpre w.heap.size (w.heap.size + 1) ((w.alloc (.cells #[.slice none 0 0,.slice none 0 0,.slice none 0 0,.bool false,.int .i64 0,.int .i64 0,.bool false,.int .i64 0,.int .i64 0,.slice none 0 0,.slice none 0 0,.slice none 0 0,.slice none 0 0,.slice none 0 0] 33)).alloc (.cells #[.slice bo m bc] 141)) HR.out
 have HCALL:=hid hcall
 clear hcall hpre
 go_wp2_with fail
 refine HCALL.out.mono ?_
 rintro e w0 ⟨rfl,hr,hg⟩
 replace HA:=hid (HA.out.grown (qW5 _) hg (by simp))
 replace HR:=hid hr
 replace HBL:=hid (zW HBL.out hg (by omega))
 have hAw:w.heap.size < w0.heap.size:=HA.out.lt (qW5 _)
 have hPw:w.heap.size + 1 < w0.heap.size:=hr.lt
 clear hr hg HCALL
 have HB:Hid (Cel (w0.alloc (.cells #[.slice none 0 0,.slice none 0 0,.slice none 0 0,.bool false,.int .i64 0,.int .i64 0,.bool false,.int .i64 0,.int .i64 0,.slice none 0 0,.slice none 0 0,.slice none 0 0,.slice none 0 0,.slice none 0 0] 33)) w0.heap.size [.slice none 0 0,.slice none 0 0,.slice none 0 0,.bool false,.int .i64 0,.int .i64 0,.bool false,.int .i64 0,.int .i64 0,.slice none 0 0,.slice none 0 0,.slice none 0 0,.slice none 0 0,.slice none 0 0]):=hid (Cel.new w0 [.slice none 0 0,.slice none 0 0,.slice none 0 0,.bool false,.int .i64 0,.int .i64 0,.bool false,.int .i64 0,.int .i64 0,.slice none 0 0,.slice none 0 0,.slice none 0 0,.slice none 0 0,.slice none 0 0] 33)
 replace HA:=hid (HA.out.below (qW5 _) (Bl.alloc (Bl.refl w0) (.cells #[.slice none 0 0,.slice none 0 0,.slice none 0 0,.bool false,.int .i64 0,.int .i64 0,.bool false,.int .i64 0,.int .i64 0,.slice none 0 0,.slice none 0 0,.slice none 0 0,.slice none 0 0,.slice none 0 0] 33)))
 replace HR:=hid (HR.out.alloc (.cells #[.slice none 0 0,.slice none 0 0,.slice none 0 0,.bool false,.int .i64 0,.int .i64 0,.bool false,.int .i64 0,.int .i64 0,.slice none 0 0,.slice none 0 0,.slice none 0 0,.slice none 0 0,.slice none 0 0] 33))
 replace HBL:=hid (Bl.alloc HBL.out (.cells #[.slice none 0 0,.slice none 0 0,.slice none 0 0,.bool false,.int .i64 0,.int .i64 0,.bool false,.int .i64 0,.int .i64 0,.slice none 0 0,.slice none 0 0,.slice none 0 0,.slice none 0 0,.slice none 0 0] 33))
 have hbl:w0.heap.size + 1 <= (w0.alloc (.cells #[.slice none 0 0,.slice none 0 0,.slice none 0 0,.bool false,.int .i64 0,.int .i64 0,.bool false,.int .i64 0,.int .i64 0,.slice none 0 0,.slice none 0 0,.slice none 0 0,.slice none 0 0,.slice none 0 0] 33)).heap.size:=HB.out.lt (qW5 _)
 have hcall:=qKc w.heap.size (w.heap.size + 1) T (qL 2 imE I ++ (qL 3 jG F ++ (qL 4 taE P4 ++ (qL 5 liE P5 ++ (qL 6 glE G ++ (qL 7 exE E ++ (qL 9 elE L ++ (qL 10 coE C ++ (qL 11 daE D ++ []))))))))) (w0.alloc (.cells #[.slice none 0 0,.slice none 0 0,.slice none 0 0,.bool false,.int .i64 0,.int .i64 0,.bool false,.int .i64 0,.int .i64 0,.slice none 0 0,.slice none 0 0,.slice none 0 0,.slice none 0 0,.slice none 0 0] 33)) HR.out HNK.out.1 HS.out.1 HALL.out.1
 have HCALL:=hid hcall
 clear hcall
 go_wp2_with fail
 refine HCALL.out.mono ?_
 rintro e w1 ⟨v,rfl,ho,hr,hg⟩
 have HO0:=hid (ho.lift hbl)
 replace HR:=hid hr
 replace HA:=hid (HA.out.grown (qW5 _) hg (by simp))
 replace HB:=hid (HB.out.grown (qW5 _) hg (by simp;omega))
 replace HBL:=hid (zW HBL.out hg (by omega))
 clear hr hg HCALL hbl
 obtain ⟨o0,e0,rfl,_,_,_⟩:=ho.shape
 obtain ⟨n0,hn0⟩:∃ n0,T.length=n0:=⟨_,rfl⟩
 rw [hn0] at HO0 ⊢
 clear ho hn0
 have b0:=HB.out.cell 0 _ rfl
 have fb0:=HB.out.fro 0 _ rfl
 have hg2:=qH w1 ⟨w0.heap.size,0,none⟩ (.slice o0 n0 e0)
 replace HB:=hid (HB.out.set 0 (.slice o0 n0 e0) (by simp))
 replace HA:=hid (HA.out.other (show w.heap.size ≠ w0.heap.size by omega) 0 (.slice o0 n0 e0))
 replace HR:=hid (HR.out.gr hg2 (fun q e=>by have h:w0.heap.size=q:=(by simpa using e);omega))
 replace HBL:=hid (zW HBL.out hg2 (show w.heap.size <= w0.heap.size by omega))
 replace HO0:=hid (HO0.out.kept hg2 (fun q e=>by have h:w0.heap.size=q:=(by simpa using e);omega))
 clear hg2
 have hbl:w0.heap.size + 1 <= (w1.setCell ⟨w0.heap.size,0,none⟩ (.slice o0 n0 e0)).heap.size:=HB.out.lt (qW5 _)
 have hcall:=qF6 w.heap.size (w.heap.size + 1) I (qL 3 jG F ++ (qL 4 taE P4 ++ (qL 5 liE P5 ++ (qL 6 glE G ++ (qL 7 exE E ++ (qL 9 elE L ++ (qL 10 coE C ++ (qL 11 daE D ++ [])))))))) (w1.setCell ⟨w0.heap.size,0,none⟩ (.slice o0 n0 e0)) HR.out HNK.out.2.1 HS.out.2.1 HALL.out.2.1
 have HCALL:=hid hcall
 clear hcall
 go_wp2_with fail
 refine HCALL.out.mono ?_
 rintro e w2 ⟨v,rfl,ho,hr,hg⟩
 have HO1:=hid (ho.lift hbl)
 replace HR:=hid hr
 replace HA:=hid (HA.out.grown (qW5 _) hg (by simp))
 replace HB:=hid (HB.out.grown (qW5 _) hg (by simp;omega))
 replace HBL:=hid (zW HBL.out hg (by omega))
 replace HO0:=hid (HO0.out.kept hg (fun q e=>by have h:w.heap.size + 1=q:=(by simpa using e);omega))
 clear hr hg HCALL hbl
 obtain ⟨o1,e1,rfl,_,_,_⟩:=ho.shape
 obtain ⟨n1,hn1⟩:∃ n1,I.length=n1:=⟨_,rfl⟩
 rw [hn1] at HO1 ⊢
 clear ho hn1
 have b1:=HB.out.cell 1 _ rfl
 have fb1:=HB.out.fro 1 _ rfl
 have hg2:=qH w2 ⟨w0.heap.size,1,none⟩ (.slice o1 n1 e1)
 replace HB:=hid (HB.out.set 1 (.slice o1 n1 e1) (by simp))
 replace HA:=hid (HA.out.other (show w.heap.size ≠ w0.heap.size by omega) 1 (.slice o1 n1 e1))
 replace HR:=hid (HR.out.gr hg2 (fun q e=>by have h:w0.heap.size=q:=(by simpa using e);omega))
 replace HBL:=hid (zW HBL.out hg2 (show w.heap.size <= w0.heap.size by omega))
 replace HO0:=hid (HO0.out.kept hg2 (fun q e=>by have h:w0.heap.size=q:=(by simpa using e);omega))
 replace HO1:=hid (HO1.out.kept hg2 (fun q e=>by have h:w0.heap.size=q:=(by simpa using e);omega))
 clear hg2
 have hbl:w0.heap.size + 1 <= (w2.setCell ⟨w0.heap.size,1,none⟩ (.slice o1 n1 e1)).heap.size:=HB.out.lt (qW5 _)
 have hcall:=qKd w.heap.size (w.heap.size + 1) F (qL 4 taE P4 ++ (qL 5 liE P5 ++ (qL 6 glE G ++ (qL 7 exE E ++ (qL 9 elE L ++ (qL 10 coE C ++ (qL 11 daE D ++ []))))))) (w2.setCell ⟨w0.heap.size,1,none⟩ (.slice o1 n1 e1)) HR.out HNK.out.2.2.1 HS.out.2.2.1 HALL.out.2.2.1
 have HCALL:=hid hcall
 clear hcall
 go_wp2_with fail
 refine HCALL.out.mono ?_
 rintro e w3 ⟨v,rfl,ho,hr,hg⟩
 have HO2:=hid (ho.lift hbl)
 replace HR:=hid hr
 replace HA:=hid (HA.out.grown (qW5 _) hg (by simp))
 replace HB:=hid (HB.out.grown (qW5 _) hg (by simp;omega))
 replace HBL:=hid (zW HBL.out hg (by omega))
 replace HO0:=hid (HO0.out.kept hg (fun q e=>by have h:w.heap.size + 1=q:=(by simpa using e);omega))
 replace HO1:=hid (HO1.out.kept hg (fun q e=>by have h:w.heap.size + 1=q:=(by simpa using e);omega))
 clear hr hg HCALL hbl
 obtain ⟨o2,e2,rfl,_,_,_⟩:=ho.shape
 obtain ⟨n2,hn2⟩:∃ n2,F.length=n2:=⟨_,rfl⟩
 rw [hn2] at HO2 ⊢
 clear ho hn2
 have b2:=HB.out.cell 2 _ rfl
 have fb2:=HB.out.fro 2 _ rfl
 have hg2:=qH w3 ⟨w0.heap.size,2,none⟩ (.slice o2 n2 e2)
 replace HB:=hid (HB.out.set 2 (.slice o2 n2 e2) (by simp))
 replace HA:=hid (HA.out.other (show w.heap.size ≠ w0.heap.size by omega) 2 (.slice o2 n2 e2))
 replace HR:=hid (HR.out.gr hg2 (fun q e=>by have h:w0.heap.size=q:=(by simpa using e);omega))
 replace HBL:=hid (zW HBL.out hg2 (show w.heap.size <= w0.heap.size by omega))
 replace HO0:=hid (HO0.out.kept hg2 (fun q e=>by have h:w0.heap.size=q:=(by simpa using e);omega))
 replace HO1:=hid (HO1.out.kept hg2 (fun q e=>by have h:w0.heap.size=q:=(by simpa using e);omega))
 replace HO2:=hid (HO2.out.kept hg2 (fun q e=>by have h:w0.heap.size=q:=(by simpa using e);omega))
 clear hg2
 have hbl:w0.heap.size + 1 <= (w3.setCell ⟨w0.heap.size,2,none⟩ (.slice o2 n2 e2)).heap.size:=HB.out.lt (qW5 _)
 have hcall:=qHw w.heap.size (w.heap.size + 1) P4 (qL 5 liE P5 ++ (qL 6 glE G ++ (qL 7 exE E ++ (qL 9 elE L ++ (qL 10 coE C ++ (qL 11 daE D ++ [])))))) (w3.setCell ⟨w0.heap.size,2,none⟩ (.slice o2 n2 e2)) HR.out HNK.out.2.2.2.1 HS.out.2.2.2.1 HALL.out.2.2.2.1
 have HCALL:=hid hcall
 clear hcall
 go_wp2_with fail
 refine HCALL.out.mono ?_
 rintro e w4 ⟨v,rfl,ho,hr,hg⟩
 have HO3:=hid (ho.lift hbl)
 replace HR:=hid hr
 replace HA:=hid (HA.out.grown (qW5 _) hg (by simp))
 replace HB:=hid (HB.out.grown (qW5 _) hg (by simp;omega))
 replace HBL:=hid (zW HBL.out hg (by omega))
 replace HO0:=hid (HO0.out.kept hg (fun q e=>by have h:w.heap.size + 1=q:=(by simpa using e);omega))
 replace HO1:=hid (HO1.out.kept hg (fun q e=>by have h:w.heap.size + 1=q:=(by simpa using e);omega))
 replace HO2:=hid (HO2.out.kept hg (fun q e=>by have h:w.heap.size + 1=q:=(by simpa using e);omega))
 clear hr hg HCALL hbl
 have hof:=HO3.out
 rw [<- EP4.out] at hof
 have hcall:=qF9 ⟨th,tm,tx⟩ _ v w4 hof HALL.out.2.2.2.2.2.2.2.2.2.2.2.2.1
 have HCALL:=hid hcall
 clear hcall hof ho HO3
 go_wp2_with fail
 refine HCALL.out.mono ?_
 rintro e w5 ⟨rfl,hb⟩
 have hg:=xR hb (qW8 _) none
 replace HR:=hid (HR.out.below hb (qW8 _))
 replace HA:=hid (HA.out.below (qW5 _) hb)
 replace HB:=hid (HB.out.below (qW5 _) hb)
 replace HBL:=hid (Bl.step HBL.out hb)
 replace HO0:=hid (HO0.out.below hb (qW8 _))
 replace HO1:=hid (HO1.out.below hb (qW8 _))
 replace HO2:=hid (HO2.out.below hb (qW8 _))
 clear hb hg HCALL
 have b3:=HB.out.cell 3 _ rfl
 have fb3:=HB.out.fro 3 _ rfl
 have b4:=HB.out.cell 4 _ rfl
 have fb4:=HB.out.fro 4 _ rfl
 have b5:=HB.out.cell 5 _ rfl
 have fb5:=HB.out.fro 5 _ rfl
 have hg2:=qH w5 ⟨w0.heap.size,3,none⟩ (.bool th)
 replace HB:=hid (HB.out.set 3 (.bool th) (by simp))
 replace HA:=hid (HA.out.other (show w.heap.size ≠ w0.heap.size by omega) 3 (.bool th))
 replace HR:=hid (HR.out.gr hg2 (fun q e=>by have h:w0.heap.size=q:=(by simpa using e);omega))
 replace HBL:=hid (zW HBL.out hg2 (show w.heap.size <= w0.heap.size by omega))
 replace HO0:=hid (HO0.out.kept hg2 (fun q e=>by have h:w0.heap.size=q:=(by simpa using e);omega))
 replace HO1:=hid (HO1.out.kept hg2 (fun q e=>by have h:w0.heap.size=q:=(by simpa using e);omega))
 replace HO2:=hid (HO2.out.kept hg2 (fun q e=>by have h:w0.heap.size=q:=(by simpa using e);omega))
 clear hg2
 have hg2:=qH (w5.setCell ⟨w0.heap.size,3,none⟩ (.bool th)) ⟨w0.heap.size,4,none⟩ (.int .i64 tm)
 replace HB:=hid (HB.out.set 4 (.int .i64 tm) (by simp))
 replace HA:=hid (HA.out.other (show w.heap.size ≠ w0.heap.size by omega) 4 (.int .i64 tm))
 replace HR:=hid (HR.out.gr hg2 (fun q e=>by have h:w0.heap.size=q:=(by simpa using e);omega))
 replace HBL:=hid (zW HBL.out hg2 (show w.heap.size <= w0.heap.size by omega))
 replace HO0:=hid (HO0.out.kept hg2 (fun q e=>by have h:w0.heap.size=q:=(by simpa using e);omega))
 replace HO1:=hid (HO1.out.kept hg2 (fun q e=>by have h:w0.heap.size=q:=(by simpa using e);omega))
 replace HO2:=hid (HO2.out.kept hg2 (fun q e=>by have h:w0.heap.size=q:=(by simpa using e);omega))
 clear hg2
 have hg2:=qH ((w5.setCell ⟨w0.heap.size,3,none⟩ (.bool th)).setCell ⟨w0.heap.size,4,none⟩ (.int .i64 tm)) ⟨w0.heap.size,5,none⟩ (.int .i64 tx)
 replace HB:=hid (HB.out.set 5 (.int .i64 tx) (by simp))
 replace HA:=hid (HA.out.other (show w.heap.size ≠ w0.heap.size by omega) 5 (.int .i64 tx))
 replace HR:=hid (HR.out.gr hg2 (fun q e=>by have h:w0.heap.size=q:=(by simpa using e);omega))
 replace HBL:=hid (zW HBL.out hg2 (show w.heap.size <= w0.heap.size by omega))
 replace HO0:=hid (HO0.out.kept hg2 (fun q e=>by have h:w0.heap.size=q:=(by simpa using e);omega))
 replace HO1:=hid (HO1.out.kept hg2 (fun q e=>by have h:w0.heap.size=q:=(by simpa using e);omega))
 replace HO2:=hid (HO2.out.kept hg2 (fun q e=>by have h:w0.heap.size=q:=(by simpa using e);omega))
 clear hg2
 have hbl:w0.heap.size + 1 <= (((w5.setCell ⟨w0.heap.size,3,none⟩ (.bool th)).setCell ⟨w0.heap.size,4,none⟩ (.int .i64 tm)).setCell ⟨w0.heap.size,5,none⟩ (.int .i64 tx)).heap.size:=HB.out.lt (qW5 _)
 have hcall:=qMl w.heap.size (w.heap.size + 1) P5 (qL 6 glE G ++ (qL 7 exE E ++ (qL 9 elE L ++ (qL 10 coE C ++ (qL 11 daE D ++ []))))) (((w5.setCell ⟨w0.heap.size,3,none⟩ (.bool th)).setCell ⟨w0.heap.size,4,none⟩ (.int .i64 tm)).setCell ⟨w0.heap.size,5,none⟩ (.int .i64 tx)) HR.out HNK.out.2.2.2.2.1 HS.out.2.2.2.2.1 HALL.out.2.2.2.2.1
 have HCALL:=hid hcall
 clear hcall
 go_wp2_with fail
 refine HCALL.out.mono ?_
 rintro e w6 ⟨v,rfl,ho,hr,hg⟩
 have HO4:=hid (ho.lift hbl)
 replace HR:=hid hr
 replace HA:=hid (HA.out.grown (qW5 _) hg (by simp))
 replace HB:=hid (HB.out.grown (qW5 _) hg (by simp;omega))
 replace HBL:=hid (zW HBL.out hg (by omega))
 replace HO0:=hid (HO0.out.kept hg (fun q e=>by have h:w.heap.size + 1=q:=(by simpa using e);omega))
 replace HO1:=hid (HO1.out.kept hg (fun q e=>by have h:w.heap.size + 1=q:=(by simpa using e);omega))
 replace HO2:=hid (HO2.out.kept hg (fun q e=>by have h:w.heap.size + 1=q:=(by simpa using e);omega))
 clear hr hg HCALL hbl
 have hof:=HO4.out
 rw [<- EP5.out] at hof
 have hcall:=qF9 ⟨mh,mm,mx⟩ _ v w6 hof HALL.out.2.2.2.2.2.2.2.2.2.2.2.2.2
 have HCALL:=hid hcall
 clear hcall hof ho HO4
 go_wp2_with fail
 refine HCALL.out.mono ?_
 rintro e w7 ⟨rfl,hb⟩
 have hg:=xR hb (qW8 _) none
 replace HR:=hid (HR.out.below hb (qW8 _))
 replace HA:=hid (HA.out.below (qW5 _) hb)
 replace HB:=hid (HB.out.below (qW5 _) hb)
 replace HBL:=hid (Bl.step HBL.out hb)
 replace HO0:=hid (HO0.out.below hb (qW8 _))
 replace HO1:=hid (HO1.out.below hb (qW8 _))
 replace HO2:=hid (HO2.out.below hb (qW8 _))
 clear hb hg HCALL
 have b6:=HB.out.cell 6 _ rfl
 have fb6:=HB.out.fro 6 _ rfl
 have b7:=HB.out.cell 7 _ rfl
 have fb7:=HB.out.fro 7 _ rfl
 have b8:=HB.out.cell 8 _ rfl
 have fb8:=HB.out.fro 8 _ rfl
 have hg2:=qH w7 ⟨w0.heap.size,6,none⟩ (.bool mh)
 replace HB:=hid (HB.out.set 6 (.bool mh) (by simp))
 replace HA:=hid (HA.out.other (show w.heap.size ≠ w0.heap.size by omega) 6 (.bool mh))
 replace HR:=hid (HR.out.gr hg2 (fun q e=>by have h:w0.heap.size=q:=(by simpa using e);omega))
 replace HBL:=hid (zW HBL.out hg2 (show w.heap.size <= w0.heap.size by omega))
 replace HO0:=hid (HO0.out.kept hg2 (fun q e=>by have h:w0.heap.size=q:=(by simpa using e);omega))
 replace HO1:=hid (HO1.out.kept hg2 (fun q e=>by have h:w0.heap.size=q:=(by simpa using e);omega))
 replace HO2:=hid (HO2.out.kept hg2 (fun q e=>by have h:w0.heap.size=q:=(by simpa using e);omega))
 clear hg2
 have hg2:=qH (w7.setCell ⟨w0.heap.size,6,none⟩ (.bool mh)) ⟨w0.heap.size,7,none⟩ (.int .i64 mm)
 replace HB:=hid (HB.out.set 7 (.int .i64 mm) (by simp))
 replace HA:=hid (HA.out.other (show w.heap.size ≠ w0.heap.size by omega) 7 (.int .i64 mm))
 replace HR:=hid (HR.out.gr hg2 (fun q e=>by have h:w0.heap.size=q:=(by simpa using e);omega))
 replace HBL:=hid (zW HBL.out hg2 (show w.heap.size <= w0.heap.size by omega))
 replace HO0:=hid (HO0.out.kept hg2 (fun q e=>by have h:w0.heap.size=q:=(by simpa using e);omega))
 replace HO1:=hid (HO1.out.kept hg2 (fun q e=>by have h:w0.heap.size=q:=(by simpa using e);omega))
 replace HO2:=hid (HO2.out.kept hg2 (fun q e=>by have h:w0.heap.size=q:=(by simpa using e);omega))
 clear hg2
 have hg2:=qH ((w7.setCell ⟨w0.heap.size,6,none⟩ (.bool mh)).setCell ⟨w0.heap.size,7,none⟩ (.int .i64 mm)) ⟨w0.heap.size,8,none⟩ (.int .i64 mx)
 replace HB:=hid (HB.out.set 8 (.int .i64 mx) (by simp))
 replace HA:=hid (HA.out.other (show w.heap.size ≠ w0.heap.size by omega) 8 (.int .i64 mx))
 replace HR:=hid (HR.out.gr hg2 (fun q e=>by have h:w0.heap.size=q:=(by simpa using e);omega))
 replace HBL:=hid (zW HBL.out hg2 (show w.heap.size <= w0.heap.size by omega))
 replace HO0:=hid (HO0.out.kept hg2 (fun q e=>by have h:w0.heap.size=q:=(by simpa using e);omega))
 replace HO1:=hid (HO1.out.kept hg2 (fun q e=>by have h:w0.heap.size=q:=(by simpa using e);omega))
 replace HO2:=hid (HO2.out.kept hg2 (fun q e=>by have h:w0.heap.size=q:=(by simpa using e);omega))
 clear hg2
 have hbl:w0.heap.size + 1 <= (((w7.setCell ⟨w0.heap.size,6,none⟩ (.bool mh)).setCell ⟨w0.heap.size,7,none⟩ (.int .i64 mm)).setCell ⟨w0.heap.size,8,none⟩ (.int .i64 mx)).heap.size:=HB.out.lt (qW5 _)
 have hcall:=qF7 w.heap.size (w.heap.size + 1) G (qL 7 exE E ++ (qL 9 elE L ++ (qL 10 coE C ++ (qL 11 daE D ++ [])))) (((w7.setCell ⟨w0.heap.size,6,none⟩ (.bool mh)).setCell ⟨w0.heap.size,7,none⟩ (.int .i64 mm)).setCell ⟨w0.heap.size,8,none⟩ (.int .i64 mx)) HR.out HNK.out.2.2.2.2.2.1 HS.out.2.2.2.2.2.1 HALL.out.2.2.2.2.2.1 HALL.out.2.2.2.2.2.2.2.2.2.2.1
 have HCALL:=hid hcall
 clear hcall
 go_wp2_with fail
 refine HCALL.out.mono ?_
 rintro e w8 ⟨v,rfl,ho,hr,hg⟩
 have HO5:=hid (ho.lift hbl)
 replace HR:=hid hr
 replace HA:=hid (HA.out.grown (qW5 _) hg (by simp))
 replace HB:=hid (HB.out.grown (qW5 _) hg (by simp;omega))
 replace HBL:=hid (zW HBL.out hg (by omega))
 replace HO0:=hid (HO0.out.kept hg (fun q e=>by have h:w.heap.size + 1=q:=(by simpa using e);omega))
 replace HO1:=hid (HO1.out.kept hg (fun q e=>by have h:w.heap.size + 1=q:=(by simpa using e);omega))
 replace HO2:=hid (HO2.out.kept hg (fun q e=>by have h:w.heap.size + 1=q:=(by simpa using e);omega))
 clear hr hg HCALL hbl
 obtain ⟨o5,e5,rfl,_,_,_⟩:=ho.shape
 obtain ⟨n5,hn5⟩:∃ n5,G.length=n5:=⟨_,rfl⟩
 rw [hn5] at HO5 ⊢
 clear ho hn5
 have b9:=HB.out.cell 9 _ rfl
 have fb9:=HB.out.fro 9 _ rfl
 have hg2:=qH w8 ⟨w0.heap.size,9,none⟩ (.slice o5 n5 e5)
 replace HB:=hid (HB.out.set 9 (.slice o5 n5 e5) (by simp))
 replace HA:=hid (HA.out.other (show w.heap.size ≠ w0.heap.size by omega) 9 (.slice o5 n5 e5))
 replace HR:=hid (HR.out.gr hg2 (fun q e=>by have h:w0.heap.size=q:=(by simpa using e);omega))
 replace HBL:=hid (zW HBL.out hg2 (show w.heap.size <= w0.heap.size by omega))
 replace HO0:=hid (HO0.out.kept hg2 (fun q e=>by have h:w0.heap.size=q:=(by simpa using e);omega))
 replace HO1:=hid (HO1.out.kept hg2 (fun q e=>by have h:w0.heap.size=q:=(by simpa using e);omega))
 replace HO2:=hid (HO2.out.kept hg2 (fun q e=>by have h:w0.heap.size=q:=(by simpa using e);omega))
 replace HO5:=hid (HO5.out.kept hg2 (fun q e=>by have h:w0.heap.size=q:=(by simpa using e);omega))
 clear hg2
 have hbl:w0.heap.size + 1 <= (w8.setCell ⟨w0.heap.size,9,none⟩ (.slice o5 n5 e5)).heap.size:=HB.out.lt (qW5 _)
 have hcall:=qF8 w.heap.size (w.heap.size + 1) E (qL 9 elE L ++ (qL 10 coE C ++ (qL 11 daE D ++ []))) (w8.setCell ⟨w0.heap.size,9,none⟩ (.slice o5 n5 e5)) HR.out HNK.out.2.2.2.2.2.2.1 HS.out.2.2.2.2.2.2.1 HALL.out.2.2.2.2.2.2.1
 have HCALL:=hid hcall
 clear hcall
 go_wp2_with fail
 refine HCALL.out.mono ?_
 rintro e w9 ⟨v,rfl,ho,hr,hg⟩
 have HO6:=hid (ho.lift hbl)
 replace HR:=hid hr
 replace HA:=hid (HA.out.grown (qW5 _) hg (by simp))
 replace HB:=hid (HB.out.grown (qW5 _) hg (by simp;omega))
 replace HBL:=hid (zW HBL.out hg (by omega))
 replace HO0:=hid (HO0.out.kept hg (fun q e=>by have h:w.heap.size + 1=q:=(by simpa using e);omega))
 replace HO1:=hid (HO1.out.kept hg (fun q e=>by have h:w.heap.size + 1=q:=(by simpa using e);omega))
 replace HO2:=hid (HO2.out.kept hg (fun q e=>by have h:w.heap.size + 1=q:=(by simpa using e);omega))
 replace HO5:=hid (HO5.out.kept hg (fun q e=>by have h:w.heap.size + 1=q:=(by simpa using e);omega))
 clear hr hg HCALL hbl
 obtain ⟨o6,e6,rfl,_,_,_⟩:=ho.shape
 obtain ⟨n6,hn6⟩:∃ n6,E.length=n6:=⟨_,rfl⟩
 rw [hn6] at HO6 ⊢
 clear ho hn6
 have b10:=HB.out.cell 10 _ rfl
 have fb10:=HB.out.fro 10 _ rfl
 have hg2:=qH w9 ⟨w0.heap.size,10,none⟩ (.slice o6 n6 e6)
 replace HB:=hid (HB.out.set 10 (.slice o6 n6 e6) (by simp))
 replace HA:=hid (HA.out.other (show w.heap.size ≠ w0.heap.size by omega) 10 (.slice o6 n6 e6))
 replace HR:=hid (HR.out.gr hg2 (fun q e=>by have h:w0.heap.size=q:=(by simpa using e);omega))
 replace HBL:=hid (zW HBL.out hg2 (show w.heap.size <= w0.heap.size by omega))
 replace HO0:=hid (HO0.out.kept hg2 (fun q e=>by have h:w0.heap.size=q:=(by simpa using e);omega))
 replace HO1:=hid (HO1.out.kept hg2 (fun q e=>by have h:w0.heap.size=q:=(by simpa using e);omega))
 replace HO2:=hid (HO2.out.kept hg2 (fun q e=>by have h:w0.heap.size=q:=(by simpa using e);omega))
 replace HO5:=hid (HO5.out.kept hg2 (fun q e=>by have h:w0.heap.size=q:=(by simpa using e);omega))
 replace HO6:=hid (HO6.out.kept hg2 (fun q e=>by have h:w0.heap.size=q:=(by simpa using e);omega))
 clear hg2
 have hbl:w0.heap.size + 1 <= (w9.setCell ⟨w0.heap.size,10,none⟩ (.slice o6 n6 e6)).heap.size:=HB.out.lt (qW5 _)
 have hcall:=qKe w.heap.size (w.heap.size + 1) L (qL 10 coE C ++ (qL 11 daE D ++ [])) (w9.setCell ⟨w0.heap.size,10,none⟩ (.slice o6 n6 e6)) HR.out HNK.out.2.2.2.2.2.2.2.1 HS.out.2.2.2.2.2.2.2.1 HALL.out.2.2.2.2.2.2.2.1
 have HCALL:=hid hcall
 clear hcall
 go_wp2_with fail
 refine HCALL.out.mono ?_
 rintro e w10 ⟨v,rfl,ho,hr,hg⟩
 have HO7:=hid (ho.lift hbl)
 replace HR:=hid hr
 replace HA:=hid (HA.out.grown (qW5 _) hg (by simp))
 replace HB:=hid (HB.out.grown (qW5 _) hg (by simp;omega))
 replace HBL:=hid (zW HBL.out hg (by omega))
 replace HO0:=hid (HO0.out.kept hg (fun q e=>by have h:w.heap.size + 1=q:=(by simpa using e);omega))
 replace HO1:=hid (HO1.out.kept hg (fun q e=>by have h:w.heap.size + 1=q:=(by simpa using e);omega))
 replace HO2:=hid (HO2.out.kept hg (fun q e=>by have h:w.heap.size + 1=q:=(by simpa using e);omega))
 replace HO5:=hid (HO5.out.kept hg (fun q e=>by have h:w.heap.size + 1=q:=(by simpa using e);omega))
 replace HO6:=hid (HO6.out.kept hg (fun q e=>by have h:w.heap.size + 1=q:=(by simpa using e);omega))
 clear hr hg HCALL hbl
 obtain ⟨o7,e7,rfl,_,_,_⟩:=ho.shape
 obtain ⟨n7,hn7⟩:∃ n7,L.length=n7:=⟨_,rfl⟩
 rw [hn7] at HO7 ⊢
 clear ho hn7
 have b11:=HB.out.cell 11 _ rfl
 have fb11:=HB.out.fro 11 _ rfl
 have hg2:=qH w10 ⟨w0.heap.size,11,none⟩ (.slice o7 n7 e7)
 replace HB:=hid (HB.out.set 11 (.slice o7 n7 e7) (by simp))
 replace HA:=hid (HA.out.other (show w.heap.size ≠ w0.heap.size by omega) 11 (.slice o7 n7 e7))
 replace HR:=hid (HR.out.gr hg2 (fun q e=>by have h:w0.heap.size=q:=(by simpa using e);omega))
 replace HBL:=hid (zW HBL.out hg2 (show w.heap.size <= w0.heap.size by omega))
 replace HO0:=hid (HO0.out.kept hg2 (fun q e=>by have h:w0.heap.size=q:=(by simpa using e);omega))
 replace HO1:=hid (HO1.out.kept hg2 (fun q e=>by have h:w0.heap.size=q:=(by simpa using e);omega))
 replace HO2:=hid (HO2.out.kept hg2 (fun q e=>by have h:w0.heap.size=q:=(by simpa using e);omega))
 replace HO5:=hid (HO5.out.kept hg2 (fun q e=>by have h:w0.heap.size=q:=(by simpa using e);omega))
 replace HO6:=hid (HO6.out.kept hg2 (fun q e=>by have h:w0.heap.size=q:=(by simpa using e);omega))
 replace HO7:=hid (HO7.out.kept hg2 (fun q e=>by have h:w0.heap.size=q:=(by simpa using e);omega))
 clear hg2
 have hbl:w0.heap.size + 1 <= (w10.setCell ⟨w0.heap.size,11,none⟩ (.slice o7 n7 e7)).heap.size:=HB.out.lt (qW5 _)
 have hcall:=qKf w.heap.size (w.heap.size + 1) C (qL 11 daE D ++ []) (w10.setCell ⟨w0.heap.size,11,none⟩ (.slice o7 n7 e7)) HR.out HNK.out.2.2.2.2.2.2.2.2.1 HS.out.2.2.2.2.2.2.2.2.1 HALL.out.2.2.2.2.2.2.2.2.1 HALL.out.2.2.2.2.2.2.2.2.2.2.2.1
 have HCALL:=hid hcall
 clear hcall
 go_wp2_with fail
 refine HCALL.out.mono ?_
 rintro e w11 ⟨v,rfl,ho,hr,hg⟩
 have HO8:=hid (ho.lift hbl)
 replace HR:=hid hr
 replace HA:=hid (HA.out.grown (qW5 _) hg (by simp))
 replace HB:=hid (HB.out.grown (qW5 _) hg (by simp;omega))
 replace HBL:=hid (zW HBL.out hg (by omega))
 replace HO0:=hid (HO0.out.kept hg (fun q e=>by have h:w.heap.size + 1=q:=(by simpa using e);omega))
 replace HO1:=hid (HO1.out.kept hg (fun q e=>by have h:w.heap.size + 1=q:=(by simpa using e);omega))
 replace HO2:=hid (HO2.out.kept hg (fun q e=>by have h:w.heap.size + 1=q:=(by simpa using e);omega))
 replace HO5:=hid (HO5.out.kept hg (fun q e=>by have h:w.heap.size + 1=q:=(by simpa using e);omega))
 replace HO6:=hid (HO6.out.kept hg (fun q e=>by have h:w.heap.size + 1=q:=(by simpa using e);omega))
 replace HO7:=hid (HO7.out.kept hg (fun q e=>by have h:w.heap.size + 1=q:=(by simpa using e);omega))
 clear hr hg HCALL hbl
 obtain ⟨o8,e8,rfl,_,_,_⟩:=ho.shape
 obtain ⟨n8,hn8⟩:∃ n8,C.length=n8:=⟨_,rfl⟩
 rw [hn8] at HO8 ⊢
 clear ho hn8
 have b12:=HB.out.cell 12 _ rfl
 have fb12:=HB.out.fro 12 _ rfl
 have hg2:=qH w11 ⟨w0.heap.size,12,none⟩ (.slice o8 n8 e8)
 replace HB:=hid (HB.out.set 12 (.slice o8 n8 e8) (by simp))
 replace HA:=hid (HA.out.other (show w.heap.size ≠ w0.heap.size by omega) 12 (.slice o8 n8 e8))
 replace HR:=hid (HR.out.gr hg2 (fun q e=>by have h:w0.heap.size=q:=(by simpa using e);omega))
 replace HBL:=hid (zW HBL.out hg2 (show w.heap.size <= w0.heap.size by omega))
 replace HO0:=hid (HO0.out.kept hg2 (fun q e=>by have h:w0.heap.size=q:=(by simpa using e);omega))
 replace HO1:=hid (HO1.out.kept hg2 (fun q e=>by have h:w0.heap.size=q:=(by simpa using e);omega))
 replace HO2:=hid (HO2.out.kept hg2 (fun q e=>by have h:w0.heap.size=q:=(by simpa using e);omega))
 replace HO5:=hid (HO5.out.kept hg2 (fun q e=>by have h:w0.heap.size=q:=(by simpa using e);omega))
 replace HO6:=hid (HO6.out.kept hg2 (fun q e=>by have h:w0.heap.size=q:=(by simpa using e);omega))
 replace HO7:=hid (HO7.out.kept hg2 (fun q e=>by have h:w0.heap.size=q:=(by simpa using e);omega))
 replace HO8:=hid (HO8.out.kept hg2 (fun q e=>by have h:w0.heap.size=q:=(by simpa using e);omega))
 clear hg2
 have hbl:w0.heap.size + 1 <= (w11.setCell ⟨w0.heap.size,12,none⟩ (.slice o8 n8 e8)).heap.size:=HB.out.lt (qW5 _)
 have hcall:=qKg w.heap.size (w.heap.size + 1) D [] (w11.setCell ⟨w0.heap.size,12,none⟩ (.slice o8 n8 e8)) HR.out HNK.out.2.2.2.2.2.2.2.2.2 HS.out.2.2.2.2.2.2.2.2.2 HALL.out.2.2.2.2.2.2.2.2.2.1
 have HCALL:=hid hcall
 clear hcall
 go_wp2_with fail
 refine HCALL.out.mono ?_
 rintro e w12 ⟨v,rfl,ho,hr,hg⟩
 have HO9:=hid (ho.lift hbl)
 replace HR:=hid hr
 replace HA:=hid (HA.out.grown (qW5 _) hg (by simp))
 replace HB:=hid (HB.out.grown (qW5 _) hg (by simp;omega))
 replace HBL:=hid (zW HBL.out hg (by omega))
 replace HO0:=hid (HO0.out.kept hg (fun q e=>by have h:w.heap.size + 1=q:=(by simpa using e);omega))
 replace HO1:=hid (HO1.out.kept hg (fun q e=>by have h:w.heap.size + 1=q:=(by simpa using e);omega))
 replace HO2:=hid (HO2.out.kept hg (fun q e=>by have h:w.heap.size + 1=q:=(by simpa using e);omega))
 replace HO5:=hid (HO5.out.kept hg (fun q e=>by have h:w.heap.size + 1=q:=(by simpa using e);omega))
 replace HO6:=hid (HO6.out.kept hg (fun q e=>by have h:w.heap.size + 1=q:=(by simpa using e);omega))
 replace HO7:=hid (HO7.out.kept hg (fun q e=>by have h:w.heap.size + 1=q:=(by simpa using e);omega))
 replace HO8:=hid (HO8.out.kept hg (fun q e=>by have h:w.heap.size + 1=q:=(by simpa using e);omega))
 clear hr hg HCALL hbl
 obtain ⟨o9,e9,rfl,_,_,_⟩:=ho.shape
 obtain ⟨n9,hn9⟩:∃ n9,D.length=n9:=⟨_,rfl⟩
 rw [hn9] at HO9 ⊢
 clear ho hn9
 have d0:=HB.out.cell 0 _ rfl
 have a0:=HA.out.cell 0 _ rfl
 have fa0:=HA.out.fro 0 _ rfl
 have d1:=HB.out.cell 1 _ rfl
 have a1:=HA.out.cell 1 _ rfl
 have fa1:=HA.out.fro 1 _ rfl
 have d2:=HB.out.cell 2 _ rfl
 have a2:=HA.out.cell 2 _ rfl
 have fa2:=HA.out.fro 2 _ rfl
 have d3:=HB.out.cell 3 _ rfl
 have a3:=HA.out.cell 3 _ rfl
 have fa3:=HA.out.fro 3 _ rfl
 have d4:=HB.out.cell 4 _ rfl
 have a4:=HA.out.cell 4 _ rfl
 have fa4:=HA.out.fro 4 _ rfl
 have d5:=HB.out.cell 5 _ rfl
 have a5:=HA.out.cell 5 _ rfl
 have fa5:=HA.out.fro 5 _ rfl
 have d6:=HB.out.cell 6 _ rfl
 have a6:=HA.out.cell 6 _ rfl
 have fa6:=HA.out.fro 6 _ rfl
 have d7:=HB.out.cell 7 _ rfl
 have a7:=HA.out.cell 7 _ rfl
 have fa7:=HA.out.fro 7 _ rfl
 have d8:=HB.out.cell 8 _ rfl
 have a8:=HA.out.cell 8 _ rfl
 have fa8:=HA.out.fro 8 _ rfl
 have d9:=HB.out.cell 9 _ rfl
 have a9:=HA.out.cell 9 _ rfl
 have fa9:=HA.out.fro 9 _ rfl
 have d10:=HB.out.cell 10 _ rfl
 have a10:=HA.out.cell 10 _ rfl
 have fa10:=HA.out.fro 10 _ rfl
 have d11:=HB.out.cell 11 _ rfl
 have a11:=HA.out.cell 11 _ rfl
 have fa11:=HA.out.fro 11 _ rfl
 have d12:=HB.out.cell 12 _ rfl
 have a12:=HA.out.cell 12 _ rfl
 have fa12:=HA.out.fro 12 _ rfl
 have d13:=HB.out.cell 13 _ rfl
 have a13:=HA.out.cell 13 _ rfl
 have fa13:=HA.out.fro 13 _ rfl
 have b13:=HB.out.cell 13 _ rfl
 have fb13:=HB.out.fro 13 _ rfl
 have hg2:=qH w12 ⟨w0.heap.size,13,none⟩ (.slice o9 n9 e9)
 replace HB:=hid (HB.out.set 13 (.slice o9 n9 e9) (by simp))
 replace HA:=hid (HA.out.other (show w.heap.size ≠ w0.heap.size by omega) 13 (.slice o9 n9 e9))
 replace HR:=hid (HR.out.gr hg2 (fun q e=>by have h:w0.heap.size=q:=(by simpa using e);omega))
 replace HBL:=hid (zW HBL.out hg2 (show w.heap.size <= w0.heap.size by omega))
 replace HO0:=hid (HO0.out.kept hg2 (fun q e=>by have h:w0.heap.size=q:=(by simpa using e);omega))
 replace HO1:=hid (HO1.out.kept hg2 (fun q e=>by have h:w0.heap.size=q:=(by simpa using e);omega))
 replace HO2:=hid (HO2.out.kept hg2 (fun q e=>by have h:w0.heap.size=q:=(by simpa using e);omega))
 replace HO5:=hid (HO5.out.kept hg2 (fun q e=>by have h:w0.heap.size=q:=(by simpa using e);omega))
 replace HO6:=hid (HO6.out.kept hg2 (fun q e=>by have h:w0.heap.size=q:=(by simpa using e);omega))
 replace HO7:=hid (HO7.out.kept hg2 (fun q e=>by have h:w0.heap.size=q:=(by simpa using e);omega))
 replace HO8:=hid (HO8.out.kept hg2 (fun q e=>by have h:w0.heap.size=q:=(by simpa using e);omega))
 replace HO9:=hid (HO9.out.kept hg2 (fun q e=>by have h:w0.heap.size=q:=(by simpa using e);omega))
 clear hg2
 obtain ⟨wf,hwf⟩:∃ wf,(((((((((((((((w12.setCell ⟨w0.heap.size,13,none⟩ (.slice o9 n9 e9)).setCell ⟨w.heap.size,0,none⟩ (.slice o0 n0 e0)).setCell ⟨w.heap.size,1,none⟩ (.slice o1 n1 e1)).setCell ⟨w.heap.size,2,none⟩ (.slice o2 n2 e2)).setCell ⟨w.heap.size,3,none⟩ (.bool th)).setCell ⟨w.heap.size,4,none⟩ (.int .i64 tm)).setCell ⟨w.heap.size,5,none⟩ (.int .i64 tx)).setCell ⟨w.heap.size,6,none⟩ (.bool mh)).setCell ⟨w.heap.size,7,none⟩ (.int .i64 mm)).setCell ⟨w.heap.size,8,none⟩ (.int .i64 mx)).setCell ⟨w.heap.size,9,none⟩ (.slice o5 n5 e5)).setCell ⟨w.heap.size,10,none⟩ (.slice o6 n6 e6)).setCell ⟨w.heap.size,11,none⟩ (.slice o7 n7 e7)).setCell ⟨w.heap.size,12,none⟩ (.slice o8 n8 e8)).setCell ⟨w.heap.size,13,none⟩ (.slice o9 n9 e9))=wf:=⟨_,rfl⟩
 have hgA:World.grownBy (w12.setCell ⟨w0.heap.size,13,none⟩ (.slice o9 n9 e9)) wf (some w.heap.size):=by rw [<- hwf];exact (qC (qC (qC (qC (qC (qC (qC (qC (qC (qC (qC (qC (qC (qC (qO _ _) 0 _) 1 _) 2 _) 3 _) 4 _) 5 _) 6 _) 7 _) 8 _) 9 _) 10 _) 11 _) 12 _) 13 _)
 replace HBL:=hid (zW HBL.out hgA (qW8 _))
 replace HO0:=hid (HO0.out.kept hgA (fun q e=>by have h:w.heap.size=q:=(by simpa using e);omega))
 replace HO1:=hid (HO1.out.kept hgA (fun q e=>by have h:w.heap.size=q:=(by simpa using e);omega))
 replace HO2:=hid (HO2.out.kept hgA (fun q e=>by have h:w.heap.size=q:=(by simpa using e);omega))
 replace HO5:=hid (HO5.out.kept hgA (fun q e=>by have h:w.heap.size=q:=(by simpa using e);omega))
 replace HO6:=hid (HO6.out.kept hgA (fun q e=>by have h:w.heap.size=q:=(by simpa using e);omega))
 replace HO7:=hid (HO7.out.kept hgA (fun q e=>by have h:w.heap.size=q:=(by simpa using e);omega))
 replace HO8:=hid (HO8.out.kept hgA (fun q e=>by have h:w.heap.size=q:=(by simpa using e);omega))
 replace HO9:=hid (HO9.out.kept hgA (fun q e=>by have h:w.heap.size=q:=(by simpa using e);omega))
 have HC:=hid (show Cel wf w.heap.size [.slice o0 n0 e0,.slice o1 n1 e1,.slice o2 n2 e2,.bool th,.int .i64 tm,.int .i64 tx,.bool mh,.int .i64 mm,.int .i64 mx,.slice o5 n5 e5,.slice o6 n6 e6,.slice o7 n7 e7,.slice o8 n8 e8,.slice o9 n9 e9] from hwf ▸ ((((((((((((((HA.out.set 0 (.slice o0 n0 e0) (by simp)).set 1 (.slice o1 n1 e1) (by simp)).set 2 (.slice o2 n2 e2) (by simp)).set 3 (.bool th) (by simp)).set 4 (.int .i64 tm) (by simp)).set 5 (.int .i64 tx) (by simp)).set 6 (.bool mh) (by simp)).set 7 (.int .i64 mm) (by simp)).set 8 (.int .i64 mx) (by simp)).set 9 (.slice o5 n5 e5) (by simp)).set 10 (.slice o6 n6 e6) (by simp)).set 11 (.slice o7 n7 e7) (by simp)).set 12 (.slice o8 n8 e8) (by simp)).set 13 (.slice o9 n9 e9) (by simp)))
 have HWF:=hid hwf
 clear hgA hwf HALL HNK HS HR HA HB
 dsimp only
 repeat go_step
 rw [HWF.out]
 have hB:w.heap.size <= w0.heap.size + 1:=by omega
 refine bodyPost_ret (v:=.agg #[.slice o0 n0 e0,.slice o1 n1 e1,.slice o2 n2 e2,.bool th,.int .i64 tm,.int .i64 tx,.bool mh,.int .i64 mm,.int .i64 mx,.slice o5 n5 e5,.slice o6 n6 e6,.slice o7 n7 e7,.slice o8 n8 e8,.slice o9 n9 e9]) ?_ rfl ⟨⟨⟨o0,n0,e0⟩,⟨o1,n1,e1⟩,⟨o2,n2,e2⟩,⟨o5,n5,e5⟩,⟨o6,n6,e6⟩,⟨o7,n7,e7⟩,⟨o8,n8,e8⟩,⟨o9,n9,e9⟩⟩,rfl,fun w1 hw=>⟨(HO0.out.bxs hB) w1 hw,(HO1.out.bxs hB) w1 hw,((HO2.out.bxs hB) w1 hw).ints,(HO5.out.bxs hB) w1 hw,(HO6.out.bxs hB) w1 hw,(HO7.out.bxs hB) w1 hw,(HO8.out.bxs hB) w1 hw,(HO9.out.bxs hB) w1 hw⟩,HBL.out⟩
 have hc:Cel wf w.heap.size [.slice o0 n0 e0,.slice o1 n1 e1,.slice o2 n2 e2,.bool th,.int .i64 tm,.int .i64 tx,.bool mh,.int .i64 mm,.int .i64 mx,.slice o5 n5 e5,.slice o6 n6 e6,.slice o7 n7 e7,.slice o8 n8 e8,.slice o9 n9 e9]:=HC.out
 have a0:=hc.cell 0 _ rfl
 have a1:=hc.cell 1 _ rfl
 have a2:=hc.cell 2 _ rfl
 have a3:=hc.cell 3 _ rfl
 have a4:=hc.cell 4 _ rfl
 have a5:=hc.cell 5 _ rfl
 have a6:=hc.cell 6 _ rfl
 have a7:=hc.cell 7 _ rfl
 have a8:=hc.cell 8 _ rfl
 have a9:=hc.cell 9 _ rfl
 have a10:=hc.cell 10 _ rfl
 have a11:=hc.cell 11 _ rfl
 have a12:=hc.cell 12 _ rfl
 have a13:=hc.cell 13 _ rfl
 simp [results,Tryz.results47,go_sem,a0,a1,a2,a3,a4,a5,a6,a7,a8,a9,a10,a11,a12,a13]
open Go.RowKit
theorem Rdw.nought {K p:Nat} {w:World} {xs:List Int} (h:Rdw K p w xs):Rdw K p (w.setCell ⟨p,0,none⟩ (.slice none 0 0)) []:=h.set fun w _=>Rd.empty w .u8
theorem qPc (K p:Nat) (w:World) (xs:List Int) (h:Rdw K p w xs) :
    Calls Tryz.prog 164 #[rp p] w fun e w'=>e=.returned (.tuple #[]) /\ Rdw K p w' [] /\ w.grownBy w' (some p):=by
 obtain ⟨ao,n,cap,hc,hx⟩:=h.ex
 have hf:=h.fro
 have H2:=hid h.nought
 clear hx h
 go_enter Tryz.func164,Tryz.ntmps164
 go_wp2_with fail
 refine bodyPost_end (results_none rfl _ _ _) rfl ?_
 exact ⟨rfl,H2.out,qH w ⟨p,0,none⟩ _⟩
theorem qMn (K p:Nat) (w:World) (xs:List Int) (M:Int) (h:Rdw K p w xs) (hm:(xs.length:Int) < M) :
    Calls Tryz.prog 157 #[rp p,.int .i64 M] w fun e w'=>e=.returned (.slice none 0 0) /\ Rdw K p w' [] /\ w.grownBy w' (some p):=by
 have hfl:=qPc K p w xs h
 obtain ⟨ao,n,cap,hc,hx⟩:=h.ex
 have hlen:=hx.now.len
 have hmn:(n:Int) < M:=by omega
 have HF:=hid hfl
 clear hx h hfl hlen hm
 go_enter Tryz.func157,Tryz.ntmps157
 go_wp2_with fail
 refine HF.out.mono ?_
 rintro e w1 ⟨rfl,hr,hg⟩
 have HR:=hid hr
 have HG:=hid hg
 clear hr hg HF
 go_wp2_with fail
 go_ret
 exact ⟨rfl,HR.out,HG.out⟩
theorem qMo (K p:Nat) (w:World) (xs:List Int) (M:Int) (h:Rdw K p w xs) (hm:(xs.length:Int) < M) :
    Calls Tryz.prog 102 #[rp p,.int .i64 M] w fun e w'=>e=.returned (.tuple #[]) /\ Rdw K p w' [] /\ w.grownBy w' (some p):=by
 have ht:=qMn K p w xs M h hm
 have HT:=hid ht
 clear ht h hm
 go_enter Tryz.func102,Tryz.ntmps102
 go_wp2_with fail
 refine HT.out.mono ?_
 rintro e w1 ⟨rfl,hr,hg⟩
 have HR:=hid hr
 have HG:=hid hg
 clear hr hg
 go_wp2_with fail
 refine bodyPost_end (results_none rfl _ _ _) rfl ?_
 exact ⟨rfl,HR.out,HG.out⟩
structure MoP (M:MMo):Prop where
 pT:M.types.all xL=true
 pI:M.imports.all xD=true
 pF:M.funcs.all jQ=true
 pt:zS M.table 16 1000=true
 pm:zS M.mem 16 65536=true
 pG:M.globals.all yY=true
 pE:M.exports.all xM=true
 pL:M.elems.all zT=true
 pC:M.codes.all zM=true
 pD:M.datas.all zG=true
 ok:MoOk M
theorem qPd (bo:Option Addr) (m bc:Nat) (M:MMo) (w:World) (h:Rd .u8 w bo m bc (moE M)) (hsz:(moE M).length <= 8000) (hM:MoP M) :
    Calls Tryz.prog 47 #[.slice bo m bc] w fun e w'=>∃ V:MoV,e=.returned (.agg (V.cells M).toArray) /\ Bx (fun b=>w.heap.size <= b /\ b < w'.heap.size) w' (MoR V M) /\ Below w.heap.size w w':=by
 obtain ⟨T,I,F,⟨th,tm,tx⟩,⟨mh,mm,mx⟩,G,E,L,C,D⟩:=M
 refine qI7 bo m bc T I F th tm tx mh mm mx G E L C D w _ h ?_ hsz hM.pT hM.pI hM.pF hM.pt hM.pm hM.pG hM.pE hM.pL hM.pC hM.pD hM.ok.gl hM.ok.co
 intro K p w1 h1
 have:=jL K p w1 _ 8 h1 (by simp [moE,yX]) 8 rfl
 refine this.mono ?_
 rintro e w2 ⟨rfl,hr,hg⟩
 refine ⟨rfl,?_,hg⟩
 have e8:(moE ⟨T,I,F,⟨th,tm,tx⟩,⟨mh,mm,mx⟩,G,E,L,C,D⟩).drop 8=qL 1 tyE T ++ (qL 2 imE I ++ (qL 3 jG F ++ (qL 4 taE (jB ⟨th,tm,tx⟩) ++ (qL 5 liE (jB ⟨mh,mm,mx⟩) ++ (qL 6 glE G ++ (qL 7 exE E ++ (qL 9 elE L ++ (qL 10 coE C ++ (qL 11 daE D ++ []))))))))):=by
  simp [moE,yX]
 rwa [e8] at hr
theorem qPe (bo:Option Addr) (m bc:Nat) (xs:List Int) (w:World) (h:Rd .u8 w bo m bc xs) (hsz:xs.length < 8) :
    Calls Tryz.prog 47 #[.slice bo m bc] w fun e w'=>∃ V:MoV,e=.returned (.agg (V.cells {}).toArray) /\ Bx (fun b=>w.heap.size <= b /\ b < w'.heap.size) w' (MoR V {}) /\ Below w.heap.size w w':=by
 refine qI7 bo m bc [] [] [] false 0 0 false 0 0 [] [] [] [] [] w _ h ?_ (by decide) rfl rfl rfl rfl rfl rfl rfl rfl rfl rfl (fun x hx=>by cases hx) (fun x hx=>by cases hx)
 intro K p w1 h1
 exact qMo K p w1 _ 8 h1 (by omega)
def qVy (xs:List Int) (M:MMo) (w:World) (e:Ending) (w':World):Prop :=
 (jT M=true /\ moE M=xs -> ∃ V:MoV,e=.returned (.tuple #[.agg (V.cells M).toArray,.int .i64 0]) /\ Bx (fun b=>w.heap.size <= b /\ b < w'.heap.size) w' (MoR V M)) /\
 (¬ (jT M=true /\ moE M=xs) -> e=.returned (.tuple #[.agg #[.slice none 0 0,.slice none 0 0,.slice none 0 0,.bool false,.int .i64 0,.int .i64 0,.bool false,.int .i64 0,.int .i64 0,.slice none 0 0,.slice none 0 0,.slice none 0 0,.slice none 0 0,.slice none 0 0],.int .i64 1])) /\ Below w.heap.size w w'
theorem qI8 {xs:List Int} {M:MMo} {w w':World} (h:¬ (jT M=true /\ moE M=xs)) (hb:Below w.heap.size w w'):qVy xs M w (.returned (.tuple #[.agg #[.slice none 0 0,.slice none 0 0,.slice none 0 0,.bool false,.int .i64 0,.int .i64 0,.bool false,.int .i64 0,.int .i64 0,.slice none 0 0,.slice none 0 0,.slice none 0 0,.slice none 0 0,.slice none 0 0],.int .i64 1])) w':=⟨fun h'=>absurd h' h,fun _=>rfl,hb⟩
theorem qMp {xs:List Int} {M:MMo} {w w':World} (V:MoV) (h:jT M=true /\ moE M=xs) (hV:Bx (fun b=>w.heap.size <= b /\ b < w'.heap.size) w' (MoR V M)) (hb:Below w.heap.size w w'):qVy xs M w (.returned (.tuple #[.agg (V.cells M).toArray,.int .i64 0])) w':=⟨fun _=>⟨V,rfl,hV⟩,fun h'=>absurd h h',hb⟩
theorem qD2 (bo:Option Addr) (m bc:Nat) (xs:List Int) (M:MMo) (w:World) (h:Rd .u8 w bo m bc xs) (hsz:xs.length <= 8000) (hI:M.imports.length <= 1000000) (hF:M.funcs.length <= 1000000)
    (hr:∀ w1,Below w.heap.size w w1 -> Calls Tryz.prog 47 #[.slice bo m bc] w1 fun e w'=>∃ V:MoV,e=.returned (.agg (V.cells M).toArray) /\ Bx (fun b=>w1.heap.size <= b /\ b < w'.heap.size) w' (MoR V M) /\ Below w1.heap.size w1 w') :
    Calls Tryz.prog 15 #[.slice bo m bc] w (qVy xs M w):=by
 have hlen:=h.len
 have hm:(m:Int) <= 8000:=by omega
 have hx:=Rd.rx h
 have HX:=hid hx
 have HR:=hid hr
 have HIF:=hid (And.intro hI hF)
 clear h hx hr hlen hsz hI hF
 have HC:Hid (Cel (w.alloc (.cells #[.slice none 0 0,.slice none 0 0,.slice none 0 0,.bool false,.int .i64 0,.int .i64 0,.bool false,.int .i64 0,.int .i64 0,.slice none 0 0,.slice none 0 0,.slice none 0 0,.slice none 0 0,.slice none 0 0] 33)) w.heap.size [.slice none 0 0,.slice none 0 0,.slice none 0 0,.bool false,.int .i64 0,.int .i64 0,.bool false,.int .i64 0,.int .i64 0,.slice none 0 0,.slice none 0 0,.slice none 0 0,.slice none 0 0,.slice none 0 0]):=hid (Cel.new w [.slice none 0 0,.slice none 0 0,.slice none 0 0,.bool false,.int .i64 0,.int .i64 0,.bool false,.int .i64 0,.int .i64 0,.slice none 0 0,.slice none 0 0,.slice none 0 0,.slice none 0 0,.slice none 0 0] 33)
 have HBL:Hid (Below w.heap.size w (w.alloc (.cells #[.slice none 0 0,.slice none 0 0,.slice none 0 0,.bool false,.int .i64 0,.int .i64 0,.bool false,.int .i64 0,.int .i64 0,.slice none 0 0,.slice none 0 0,.slice none 0 0,.slice none 0 0,.slice none 0 0] 33))):=hid (Bl.alloc (Bl.refl w) _)
 have HS1:Hid ((w.alloc (.cells #[.slice none 0 0,.slice none 0 0,.slice none 0 0,.bool false,.int .i64 0,.int .i64 0,.bool false,.int .i64 0,.int .i64 0,.slice none 0 0,.slice none 0 0,.slice none 0 0,.slice none 0 0,.slice none 0 0] 33)).heap.size=w.heap.size + 1):=hid (by simp)
 go_enter Tryz.func15,Tryz.ntmps15
 go_wp2_with fail
 refine (HR.out _ HBL.out).mono ?_
 rintro e w1 ⟨V,rfl,hV,hb⟩
 have HV:Hid (Bx (fun b=>w.heap.size + 1 <= b /\ b < w1.heap.size) w1 (MoR V M)):=hid (hV.more fun b hb=>And.intro (by have:=HS1.out;omega) hb.2)
 have HM0:=hid (fun w2 (h:Rx w2 (MoR V M))=>uG V M w2 h HIF.out.1 HIF.out.2)
 have HE0:=hid (fun w2 (h:Rx w2 (MoR V M)) (a:jT M=true)=>qBy V M w2 h (by simp only [jT,qXi] at a;exact a.1.1) (by simp only [jT,qXi] at a;exact a.1.2))
 obtain ⟨t1,ht1⟩:∃ t1,jT M=t1:=⟨_,rfl⟩
 obtain ⟨ys,hys⟩:∃ ys,moE M=ys:=⟨_,rfl⟩
 simp only [ht1,hys] at HM0 HE0
 have HT1:=hid ht1
 have HYS:=hid hys
 replace HBL:=hid (Bl.step HBL.out hb)
 replace HC:=hid (HC.out.below (qW5 _) hb)
 obtain ⟨T,I,F,⟨th,tm,tx⟩,⟨mh,mm,mx⟩,G,E,L,C,D⟩:=M
 obtain ⟨⟨ot,nt,ct⟩,⟨oi,ni,ci⟩,⟨of,nf,cf⟩,⟨og,ng,cg⟩,⟨oe,ne,ce⟩,⟨ol,nl,cl⟩,⟨oc,nc,cc⟩,⟨od,nd,cd⟩⟩:=V
 clear hV hb HR HS1 ht1 hys HIF
 simp only [MoV.cells] at HM0 HE0 ⊢
 have HM:Hid (Cel (w1.alloc (.cells #[.slice ot nt ct,.slice oi ni ci,.slice of nf cf,.bool th,.int .i64 tm,.int .i64 tx,.bool mh,.int .i64 mm,.int .i64 mx,.slice og ng cg,.slice oe ne ce,.slice ol nl cl,.slice oc nc cc,.slice od nd cd] 33)) w1.heap.size [.slice ot nt ct,.slice oi ni ci,.slice of nf cf,.bool th,.int .i64 tm,.int .i64 tx,.bool mh,.int .i64 mm,.int .i64 mx,.slice og ng cg,.slice oe ne ce,.slice ol nl cl,.slice oc nc cc,.slice od nd cd]):=hid (Cel.new w1 [.slice ot nt ct,.slice oi ni ci,.slice of nf cf,.bool th,.int .i64 tm,.int .i64 tx,.bool mh,.int .i64 mm,.int .i64 mx,.slice og ng cg,.slice oe ne ce,.slice ol nl cl,.slice oc nc cc,.slice od nd cd] 33)
 have hwl:w.heap.size < w1.heap.size:=HC.out.lt (qW5 _)
 have HBX:Hid (Below w1.heap.size w1 (w1.alloc (.cells #[.slice ot nt ct,.slice oi ni ci,.slice of nf cf,.bool th,.int .i64 tm,.int .i64 tx,.bool mh,.int .i64 mm,.int .i64 mx,.slice og ng cg,.slice oe ne ce,.slice ol nl cl,.slice oc nc cc,.slice od nd cd] 33))):=hid (Bl.alloc (Bl.refl w1) _)
 replace HC:=hid (HC.out.below (qW5 _) HBX.out)
 replace HBL:=hid (Bl.step HBL.out HBX.out)
 go_wp2_with fail
 refine (HM0.out _ (Rx.below (w:=w1) (HV.out.more fun b hb=>hb.2) HBX.out)).mono ?_
 rintro e w2 ⟨rfl,hb⟩
 replace HBX:=hid (Bl.step HBX.out hb)
 replace HBL:=hid (Bl.step HBL.out hb)
 replace HC:=hid (HC.out.below (qW5 _) hb)
 replace HM:=hid (HM.out.below (qW5 _) hb)
 clear hb HM0
 have a0:=HM.out.cell 0 _ rfl
 have a1:=HM.out.cell 1 _ rfl
 have a2:=HM.out.cell 2 _ rfl
 have a3:=HM.out.cell 3 _ rfl
 have a4:=HM.out.cell 4 _ rfl
 have a5:=HM.out.cell 5 _ rfl
 have a6:=HM.out.cell 6 _ rfl
 have a7:=HM.out.cell 7 _ rfl
 have a8:=HM.out.cell 8 _ rfl
 have a9:=HM.out.cell 9 _ rfl
 have a10:=HM.out.cell 10 _ rfl
 have a11:=HM.out.cell 11 _ rfl
 have a12:=HM.out.cell 12 _ rfl
 have a13:=HM.out.cell 13 _ rfl
 have z0:=HC.out.cell 0 _ rfl
 have fz0:=HC.out.fro 0 _ rfl
 have z1:=HC.out.cell 1 _ rfl
 have fz1:=HC.out.fro 1 _ rfl
 have z2:=HC.out.cell 2 _ rfl
 have fz2:=HC.out.fro 2 _ rfl
 have z3:=HC.out.cell 3 _ rfl
 have fz3:=HC.out.fro 3 _ rfl
 have z4:=HC.out.cell 4 _ rfl
 have fz4:=HC.out.fro 4 _ rfl
 have z5:=HC.out.cell 5 _ rfl
 have fz5:=HC.out.fro 5 _ rfl
 have z6:=HC.out.cell 6 _ rfl
 have fz6:=HC.out.fro 6 _ rfl
 have z7:=HC.out.cell 7 _ rfl
 have fz7:=HC.out.fro 7 _ rfl
 have z8:=HC.out.cell 8 _ rfl
 have fz8:=HC.out.fro 8 _ rfl
 have z9:=HC.out.cell 9 _ rfl
 have fz9:=HC.out.fro 9 _ rfl
 have z10:=HC.out.cell 10 _ rfl
 have fz10:=HC.out.fro 10 _ rfl
 have z11:=HC.out.cell 11 _ rfl
 have fz11:=HC.out.fro 11 _ rfl
 have z12:=HC.out.cell 12 _ rfl
 have fz12:=HC.out.fro 12 _ rfl
 have z13:=HC.out.cell 13 _ rfl
 have fz13:=HC.out.fro 13 _ rfl
 cases t1 with
 | false =>
   obtain ⟨wf,hwf⟩:∃ wf,((((((((((((((w2.setCell ⟨w.heap.size,0,none⟩ (.slice none 0 0)).setCell ⟨w.heap.size,1,none⟩ (.slice none 0 0)).setCell ⟨w.heap.size,2,none⟩ (.slice none 0 0)).setCell ⟨w.heap.size,3,none⟩ (.bool false)).setCell ⟨w.heap.size,4,none⟩ (.int .i64 0)).setCell ⟨w.heap.size,5,none⟩ (.int .i64 0)).setCell ⟨w.heap.size,6,none⟩ (.bool false)).setCell ⟨w.heap.size,7,none⟩ (.int .i64 0)).setCell ⟨w.heap.size,8,none⟩ (.int .i64 0)).setCell ⟨w.heap.size,9,none⟩ (.slice none 0 0)).setCell ⟨w.heap.size,10,none⟩ (.slice none 0 0)).setCell ⟨w.heap.size,11,none⟩ (.slice none 0 0)).setCell ⟨w.heap.size,12,none⟩ (.slice none 0 0)).setCell ⟨w.heap.size,13,none⟩ (.slice none 0 0))=wf:=⟨_,rfl⟩
   have hg:World.grownBy w2 wf (some w.heap.size):=by rw [<- hwf];exact (qC (qC (qC (qC (qC (qC (qC (qC (qC (qC (qC (qC (qC (qC (qO _ _) 0 _) 1 _) 2 _) 3 _) 4 _) 5 _) 6 _) 7 _) 8 _) 9 _) 10 _) 11 _) 12 _) 13 _)
   replace HBL:=hid (zW HBL.out hg (qW8 _));have HCF:Hid (Cel wf w.heap.size [.slice none 0 0,.slice none 0 0,.slice none 0 0,.bool false,.int .i64 0,.int .i64 0,.bool false,.int .i64 0,.int .i64 0,.slice none 0 0,.slice none 0 0,.slice none 0 0,.slice none 0 0,.slice none 0 0]):=hid (hwf ▸ ((((((((((((((HC.out.set 0 (.slice none 0 0) (by simp)).set 1 (.slice none 0 0) (by simp)).set 2 (.slice none 0 0) (by simp)).set 3 (.bool false) (by simp)).set 4 (.int .i64 0) (by simp)).set 5 (.int .i64 0) (by simp)).set 6 (.bool false) (by simp)).set 7 (.int .i64 0) (by simp)).set 8 (.int .i64 0) (by simp)).set 9 (.slice none 0 0) (by simp)).set 10 (.slice none 0 0) (by simp)).set 11 (.slice none 0 0) (by simp)).set 12 (.slice none 0 0) (by simp)).set 13 (.slice none 0 0) (by simp)));have HWF:=hid hwf;clear hg hwf;dsimp only
   repeat go_step
   rw [HWF.out];refine bodyPost_ret (v:=.tuple #[.agg #[.slice none 0 0,.slice none 0 0,.slice none 0 0,.bool false,.int .i64 0,.int .i64 0,.bool false,.int .i64 0,.int .i64 0,.slice none 0 0,.slice none 0 0,.slice none 0 0,.slice none 0 0,.slice none 0 0],.int .i64 1]) ?_ rfl (qI8 (fun h=>by rw [HT1.out] at h;exact absurd h.1 (by decide)) HBL.out);have hc:Cel wf w.heap.size [.slice none 0 0,.slice none 0 0,.slice none 0 0,.bool false,.int .i64 0,.int .i64 0,.bool false,.int .i64 0,.int .i64 0,.slice none 0 0,.slice none 0 0,.slice none 0 0,.slice none 0 0,.slice none 0 0]:=HCF.out;have b0:=hc.cell 0 _ rfl;have b1:=hc.cell 1 _ rfl;have b2:=hc.cell 2 _ rfl;have b3:=hc.cell 3 _ rfl;have b4:=hc.cell 4 _ rfl;have b5:=hc.cell 5 _ rfl;have b6:=hc.cell 6 _ rfl;have b7:=hc.cell 7 _ rfl;have b8:=hc.cell 8 _ rfl;have b9:=hc.cell 9 _ rfl;have b10:=hc.cell 10 _ rfl;have b11:=hc.cell 11 _ rfl;have b12:=hc.cell 12 _ rfl;have b13:=hc.cell 13 _ rfl;simp [results,Tryz.results15,go_sem,b0,b1,b2,b3,b4,b5,b6,b7,b8,b9,b10,b11,b12,b13]
 | true =>
   go_wp2_with fail;refine (HE0.out w2 (Rx.below (w:=w1) (HV.out.more fun b hb=>hb.2) HBX.out) (by first | trivial | rfl)).mono ?_;rintro e w3 ⟨v,rfl,hv,hb⟩;obtain ⟨ao1,cap1,rfl,hr1⟩:=hv.rd
   obtain ⟨k1,hk1⟩:∃ k1,ys.length=k1:=⟨_,rfl⟩
   rw [hk1] at hr1;simp only [hk1];replace HBX:=hid (Bl.step HBX.out hb);replace HBL:=hid (Bl.step HBL.out hb);replace HC:=hid (HC.out.below (qW5 _) hb);replace HM:=hid (HM.out.below (qW5 _) hb);have HR1:=hid hr1;clear hb hv hr1 hk1 a0 z0 fz0 a1 z1 fz1 a2 z2 fz2 a3 z3 fz3 a4 z4 fz4 a5 z5 fz5 a6 z6 fz6 a7 z7 fz7 a8 z8 fz8 a9 z9 fz9 a10 z10 fz10 a11 z11 fz11 a12 z12 fz12 a13 z13 fz13;go_wp2_with fail;refine (qA1 _ _ _ ys bo m bc xs w3 HR1.out (HX.out.below HBL.out).now).mono ?_;rintro e w4 ⟨rfl,hb⟩
   obtain ⟨t2,ht2⟩:∃ t2,(ys == xs)=t2:=⟨_,rfl⟩
   rw [ht2];replace HBX:=hid (Bl.step HBX.out hb);replace HBL:=hid (Bl.step HBL.out hb);replace HC:=hid (HC.out.below (qW5 _) hb);replace HM:=hid (HM.out.below (qW5 _) hb);clear hb HR1;have a0:=HM.out.cell 0 _ rfl;have z0:=HC.out.cell 0 _ rfl;have fz0:=HC.out.fro 0 _ rfl;have a1:=HM.out.cell 1 _ rfl;have z1:=HC.out.cell 1 _ rfl;have fz1:=HC.out.fro 1 _ rfl;have a2:=HM.out.cell 2 _ rfl;have z2:=HC.out.cell 2 _ rfl;have fz2:=HC.out.fro 2 _ rfl;have a3:=HM.out.cell 3 _ rfl;have z3:=HC.out.cell 3 _ rfl;have fz3:=HC.out.fro 3 _ rfl;have a4:=HM.out.cell 4 _ rfl;have z4:=HC.out.cell 4 _ rfl;have fz4:=HC.out.fro 4 _ rfl;have a5:=HM.out.cell 5 _ rfl;have z5:=HC.out.cell 5 _ rfl;have fz5:=HC.out.fro 5 _ rfl;have a6:=HM.out.cell 6 _ rfl;have z6:=HC.out.cell 6 _ rfl;have fz6:=HC.out.fro 6 _ rfl;have a7:=HM.out.cell 7 _ rfl;have z7:=HC.out.cell 7 _ rfl;have fz7:=HC.out.fro 7 _ rfl;have a8:=HM.out.cell 8 _ rfl;have z8:=HC.out.cell 8 _ rfl;have fz8:=HC.out.fro 8 _ rfl;have a9:=HM.out.cell 9 _ rfl;have z9:=HC.out.cell 9 _ rfl;have fz9:=HC.out.fro 9 _ rfl;have a10:=HM.out.cell 10 _ rfl;have z10:=HC.out.cell 10 _ rfl;have fz10:=HC.out.fro 10 _ rfl;have a11:=HM.out.cell 11 _ rfl;have z11:=HC.out.cell 11 _ rfl;have fz11:=HC.out.fro 11 _ rfl;have a12:=HM.out.cell 12 _ rfl;have z12:=HC.out.cell 12 _ rfl;have fz12:=HC.out.fro 12 _ rfl;have a13:=HM.out.cell 13 _ rfl;have z13:=HC.out.cell 13 _ rfl;have fz13:=HC.out.fro 13 _ rfl
   cases t2 with
   | false =>
     have HT2:¬ ys=xs:=fun h=>by rw [h] at ht2;simp at ht2
     replace HT2:=hid HT2;clear ht2
     obtain ⟨wf,hwf⟩:∃ wf,((((((((((((((w4.setCell ⟨w.heap.size,0,none⟩ (.slice none 0 0)).setCell ⟨w.heap.size,1,none⟩ (.slice none 0 0)).setCell ⟨w.heap.size,2,none⟩ (.slice none 0 0)).setCell ⟨w.heap.size,3,none⟩ (.bool false)).setCell ⟨w.heap.size,4,none⟩ (.int .i64 0)).setCell ⟨w.heap.size,5,none⟩ (.int .i64 0)).setCell ⟨w.heap.size,6,none⟩ (.bool false)).setCell ⟨w.heap.size,7,none⟩ (.int .i64 0)).setCell ⟨w.heap.size,8,none⟩ (.int .i64 0)).setCell ⟨w.heap.size,9,none⟩ (.slice none 0 0)).setCell ⟨w.heap.size,10,none⟩ (.slice none 0 0)).setCell ⟨w.heap.size,11,none⟩ (.slice none 0 0)).setCell ⟨w.heap.size,12,none⟩ (.slice none 0 0)).setCell ⟨w.heap.size,13,none⟩ (.slice none 0 0))=wf:=⟨_,rfl⟩
     have hg:World.grownBy w4 wf (some w.heap.size):=by rw [<- hwf];exact (qC (qC (qC (qC (qC (qC (qC (qC (qC (qC (qC (qC (qC (qC (qO _ _) 0 _) 1 _) 2 _) 3 _) 4 _) 5 _) 6 _) 7 _) 8 _) 9 _) 10 _) 11 _) 12 _) 13 _)
     replace HBL:=hid (zW HBL.out hg (qW8 _));have HCF:Hid (Cel wf w.heap.size [.slice none 0 0,.slice none 0 0,.slice none 0 0,.bool false,.int .i64 0,.int .i64 0,.bool false,.int .i64 0,.int .i64 0,.slice none 0 0,.slice none 0 0,.slice none 0 0,.slice none 0 0,.slice none 0 0]):=hid (hwf ▸ ((((((((((((((HC.out.set 0 (.slice none 0 0) (by simp)).set 1 (.slice none 0 0) (by simp)).set 2 (.slice none 0 0) (by simp)).set 3 (.bool false) (by simp)).set 4 (.int .i64 0) (by simp)).set 5 (.int .i64 0) (by simp)).set 6 (.bool false) (by simp)).set 7 (.int .i64 0) (by simp)).set 8 (.int .i64 0) (by simp)).set 9 (.slice none 0 0) (by simp)).set 10 (.slice none 0 0) (by simp)).set 11 (.slice none 0 0) (by simp)).set 12 (.slice none 0 0) (by simp)).set 13 (.slice none 0 0) (by simp)));have HWF:=hid hwf;clear hg hwf;dsimp only
     repeat go_step
     rw [HWF.out];refine bodyPost_ret (v:=.tuple #[.agg #[.slice none 0 0,.slice none 0 0,.slice none 0 0,.bool false,.int .i64 0,.int .i64 0,.bool false,.int .i64 0,.int .i64 0,.slice none 0 0,.slice none 0 0,.slice none 0 0,.slice none 0 0,.slice none 0 0],.int .i64 1]) ?_ rfl (qI8 (fun h=>HT2.out (by rw [<- HYS.out];exact h.2)) HBL.out);have hc:Cel wf w.heap.size [.slice none 0 0,.slice none 0 0,.slice none 0 0,.bool false,.int .i64 0,.int .i64 0,.bool false,.int .i64 0,.int .i64 0,.slice none 0 0,.slice none 0 0,.slice none 0 0,.slice none 0 0,.slice none 0 0]:=HCF.out;have b0:=hc.cell 0 _ rfl;have b1:=hc.cell 1 _ rfl;have b2:=hc.cell 2 _ rfl;have b3:=hc.cell 3 _ rfl;have b4:=hc.cell 4 _ rfl;have b5:=hc.cell 5 _ rfl;have b6:=hc.cell 6 _ rfl;have b7:=hc.cell 7 _ rfl;have b8:=hc.cell 8 _ rfl;have b9:=hc.cell 9 _ rfl;have b10:=hc.cell 10 _ rfl;have b11:=hc.cell 11 _ rfl;have b12:=hc.cell 12 _ rfl;have b13:=hc.cell 13 _ rfl;simp [results,Tryz.results15,go_sem,b0,b1,b2,b3,b4,b5,b6,b7,b8,b9,b10,b11,b12,b13]
   | true =>
     have HT2:ys=xs:=by simpa using ht2
     replace HT2:=hid HT2;clear ht2
     obtain ⟨wf,hwf⟩:∃ wf,((((((((((((((w4.setCell ⟨w.heap.size,0,none⟩ (.slice ot nt ct)).setCell ⟨w.heap.size,1,none⟩ (.slice oi ni ci)).setCell ⟨w.heap.size,2,none⟩ (.slice of nf cf)).setCell ⟨w.heap.size,3,none⟩ (.bool th)).setCell ⟨w.heap.size,4,none⟩ (.int .i64 tm)).setCell ⟨w.heap.size,5,none⟩ (.int .i64 tx)).setCell ⟨w.heap.size,6,none⟩ (.bool mh)).setCell ⟨w.heap.size,7,none⟩ (.int .i64 mm)).setCell ⟨w.heap.size,8,none⟩ (.int .i64 mx)).setCell ⟨w.heap.size,9,none⟩ (.slice og ng cg)).setCell ⟨w.heap.size,10,none⟩ (.slice oe ne ce)).setCell ⟨w.heap.size,11,none⟩ (.slice ol nl cl)).setCell ⟨w.heap.size,12,none⟩ (.slice oc nc cc)).setCell ⟨w.heap.size,13,none⟩ (.slice od nd cd))=wf:=⟨_,rfl⟩
     have hg:World.grownBy w4 wf (some w.heap.size):=by rw [<- hwf];exact (qC (qC (qC (qC (qC (qC (qC (qC (qC (qC (qC (qC (qC (qC (qO _ _) 0 _) 1 _) 2 _) 3 _) 4 _) 5 _) 6 _) 7 _) 8 _) 9 _) 10 _) 11 _) 12 _) 13 _)
     replace HBL:=hid (zW HBL.out hg (qW8 _));have HVF:Hid (Bx (fun b=>w.heap.size <= b /\ b < wf.heap.size) wf _):=hid (HV.out.to (fun b hb=>(hg.block b (qXr hb.2 HBX.out.size) (fun e=>by simp at e;omega)).trans (HBX.out.block b hb.2)) fun b hb=>⟨by omega,qXr hb.2 (qXk HBX.out.size hg.size)⟩);have HCF:Hid (Cel wf w.heap.size [.slice ot nt ct,.slice oi ni ci,.slice of nf cf,.bool th,.int .i64 tm,.int .i64 tx,.bool mh,.int .i64 mm,.int .i64 mx,.slice og ng cg,.slice oe ne ce,.slice ol nl cl,.slice oc nc cc,.slice od nd cd]):=hid (hwf ▸ ((((((((((((((HC.out.set 0 (.slice ot nt ct) (by simp)).set 1 (.slice oi ni ci) (by simp)).set 2 (.slice of nf cf) (by simp)).set 3 (.bool th) (by simp)).set 4 (.int .i64 tm) (by simp)).set 5 (.int .i64 tx) (by simp)).set 6 (.bool mh) (by simp)).set 7 (.int .i64 mm) (by simp)).set 8 (.int .i64 mx) (by simp)).set 9 (.slice og ng cg) (by simp)).set 10 (.slice oe ne ce) (by simp)).set 11 (.slice ol nl cl) (by simp)).set 12 (.slice oc nc cc) (by simp)).set 13 (.slice od nd cd) (by simp)));have HWF:=hid hwf;clear hg hwf;dsimp only
     repeat go_step
     rw [HWF.out];refine bodyPost_ret (v:=.tuple #[.agg #[.slice ot nt ct,.slice oi ni ci,.slice of nf cf,.bool th,.int .i64 tm,.int .i64 tx,.bool mh,.int .i64 mm,.int .i64 mx,.slice og ng cg,.slice oe ne ce,.slice ol nl cl,.slice oc nc cc,.slice od nd cd],.int .i64 0]) ?_ rfl (qMp ⟨⟨ot,nt,ct⟩,⟨oi,ni,ci⟩,⟨of,nf,cf⟩,⟨og,ng,cg⟩,⟨oe,ne,ce⟩,⟨ol,nl,cl⟩,⟨oc,nc,cc⟩,⟨od,nd,cd⟩⟩ ⟨HT1.out,by rw [HYS.out];exact HT2.out⟩ HVF.out HBL.out);have hc:Cel wf w.heap.size [.slice ot nt ct,.slice oi ni ci,.slice of nf cf,.bool th,.int .i64 tm,.int .i64 tx,.bool mh,.int .i64 mm,.int .i64 mx,.slice og ng cg,.slice oe ne ce,.slice ol nl cl,.slice oc nc cc,.slice od nd cd]:=HCF.out;have b0:=hc.cell 0 _ rfl;have b1:=hc.cell 1 _ rfl;have b2:=hc.cell 2 _ rfl;have b3:=hc.cell 3 _ rfl;have b4:=hc.cell 4 _ rfl;have b5:=hc.cell 5 _ rfl;have b6:=hc.cell 6 _ rfl;have b7:=hc.cell 7 _ rfl;have b8:=hc.cell 8 _ rfl;have b9:=hc.cell 9 _ rfl;have b10:=hc.cell 10 _ rfl;have b11:=hc.cell 11 _ rfl;have b12:=hc.cell 12 _ rfl;have b13:=hc.cell 13 _ rfl;simp [results,Tryz.results15,go_sem,b0,b1,b2,b3,b4,b5,b6,b7,b8,b9,b10,b11,b12,b13]
open Go.RowKit
abbrev qVz:Value:=.agg #[.slice none 0 0,.slice none 0 0,.slice none 0 0,.bool false,.int .i64 0,.int .i64 0,.bool false,.int .i64 0,.int .i64 0,.slice none 0 0,.slice none 0 0,.slice none 0 0,.slice none 0 0,.slice none 0 0]
theorem MoP.of {M:MMo} (h:jT M=true) (ok:MoOk M):MoP M:=by
 simp only [jT,qV,qXi] at h;obtain ⟨⟨_,⟨⟨⟨⟨⟨⟨⟨⟨⟨h0,h1⟩,h2⟩,h3⟩,h4⟩,h5⟩,h6⟩,h7⟩,h8⟩,h9⟩⟩,_⟩:=h;exact ⟨h0,h1,h2,h3,h4,h5,h6,h7,h8,h9,ok⟩
theorem qAw {M:MMo} (h:jT M=true):(moE M).length <= 8000:=by
 simp only [jT,qXi,decide_eq_true_eq] at h;exact h.2
theorem qMq {M:MMo} (h:jT M=true):M.imports.length <= 1000000 /\ M.funcs.length <= 1000000:=by
 simp only [jT,jH,qXi,decide_eq_true_eq] at h;have:=h.1.1.1.1.1.1.1.2;omega
theorem qKi (bo:Option Addr) (m bc:Nat) (M:MMo) (w:World) (h:Rd .u8 w bo m bc (moE M)) (hM:jT M=true) (ok:MoOk M) :
    Calls Tryz.prog 15 #[.slice bo m bc] w fun e w'=>∃ V:MoV,e=.returned (.tuple #[.agg (V.cells M).toArray,.int .i64 0]) /\ Bx (fun b=>w.heap.size <= b /\ b < w'.heap.size) w' (MoR V M) /\ Below w.heap.size w w':=by
 refine (qD2 bo m bc (moE M) M w h (qAw hM) (qMq hM).1 (qMq hM).2 fun w1 hb=>qPd bo m bc M w1 (h.below hb) (qAw hM) (MoP.of hM ok)).mono ?_
 rintro e w1 ⟨h1,_,hb⟩
 obtain ⟨V,he,hV⟩:=h1 ⟨hM,rfl⟩
 exact ⟨V,he,hV,hb⟩
theorem qKj (bo:Option Addr) (m bc:Nat) (xs:List Int) (w:World) (h:Rd .u8 w bo m bc xs) (hsz:xs.length < 8) :
    Calls Tryz.prog 15 #[.slice bo m bc] w fun e w'=>e=.returned (.tuple #[qVz,.int .i64 1]) /\ Below w.heap.size w w':=by
 refine (qD2 bo m bc xs {} w h (by omega) (by decide) (by decide) fun w1 hb=>qPe bo m bc xs w1 (h.below hb) hsz).mono ?_
 rintro e w1 ⟨_,h2,hb⟩
 refine ⟨h2 fun h=>?_,hb⟩
 have:(moE {}).length=8:=by decide
 rw [h.2] at this
 omega
end Go.Proofs.YtbkofpljchkkaaaGreat
