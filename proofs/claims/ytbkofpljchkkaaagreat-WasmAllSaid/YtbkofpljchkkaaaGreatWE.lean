/- Words: WE. -/
import Derived.Test.YtbkofpljchkkaaaGreatWA
import Derived.Test.YtbkofpljchkkaaaGreatKC
import Derived.Test.YtbkofpljchkkaaaGreatKD
set_option maxRecDepth 100000
set_option maxHeartbeats 4000000
namespace Go.Proofs.YtbkofpljchkkaaaGreat
open Go.RowKit
def eqG {α:Type} (e:α -> α -> Bool) (xs ys:List α):Bool:=decide (xs.length=ys.length) && (xs.zip ys).all fun p=>e p.1 p.2
theorem jC {α:Type} {e:α -> α -> Bool} {xs ys:List α} (h:xs.length=ys.length):eqG e xs ys=(xs.zip ys).all fun p=>e p.1 p.2:=by simp [eqG,h]
theorem zH {α:Type} {e:α -> α -> Bool} {xs ys:List α} (h:¬ xs.length=ys.length):eqG e xs ys=false:=by simp [eqG,h]
theorem qS0 {α:Type} {e:α -> α -> Bool} (he:∀ x y,e x y=true ↔ x=y):∀ (xs ys:List α),eqG e xs ys=true ↔ xs=ys
 | [],[]=>by simp [eqG]
 | [],y :: q=>by simp [eqG]
 | x :: r,[]=>by simp [eqG]
 | x :: r,y :: q=>by
   have ih:=qS0 he r q;simp [eqG] at ih ⊢;rw [he,and_left_comm,ih]
theorem qD3 (a b:ByteArray):a.toList=b.toList ↔ a=b:=⟨qEd,fun h=>by rw [h]⟩
def qHx (a b:MTy):Bool:=a.ps == b.ps && a.rs == b.rs
def qEx (a b:MIm):Bool:=decide (a.mod=b.mod) && (decide (a.name=b.name) && a.typ == b.typ)
def qL9 (a b:MLi):Bool:=a.has == b.has && (a.mn == b.mn && a.mx == b.mx)
def qEy (a b:MGl):Bool:=a.mu == b.mu && (a.kind == b.kind && a.n == b.n)
def qFw (a b:MEx):Bool:=decide (a.name=b.name) && a.fn == b.fn
def qHq (a b:MEl):Bool:=a.off == b.off && a.fs == b.fs
def qGh (a b:MCo):Bool:=a.ls == b.ls && eqG (fun I J=>eqI I.op I.a I.b I.l J.op J.a J.b J.l) a.body b.body
def qHr (a b:MDa):Bool:=a.off == b.off && a.bs == b.bs
theorem qPn (g:Nat) (p:MTy -> MTy -> Bool) (ao:Option Addr) (n cap:Nat) (xs:List (MTy)) (bo:Option Addr) (m bap:Nat) (ys:List (MTy)) (w:World) (h:Rx w fun w=>RdG 2 (TyR) w ao n cap xs) (h':Rx w fun w=>RdG 2 (TyR) w bo m bap ys) (he:∀ args w,(callFunc g args).run Tryz.prog w=.ok (.enter g args) w)
    (HF:∀ w cs x ds y,(Rx w fun w=>TyR w cs x) -> (Rx w fun w=>TyR w ds y) -> Calls Tryz.prog g #[.agg cs.toArray,.agg ds.toArray] w fun e w'=>e=.returned (.bool (p x y)) /\ Below w.heap.size w w') :
    Calls Tryz.prog 32 #[.slice ao n cap,.slice bo m bap,.func (.func g) #[] #[]] w fun e w'=>e=.returned (.bool (eqG p xs ys)) /\ Below w.heap.size w w':=by
 have hl:=h.now.len
 have hl':=h'.now.len
 obtain ⟨h63,_⟩:=h.now.cap63
 obtain ⟨g63,_⟩:=h'.now.cap63
 by_cases hnm:n=m
 ·subst hnm
  rw [jC (by rw [hl,hl'])];have H:=hid h;have H':=hid h';have HFF:=hid HF;have Hl:=hid hl;have Hl':=hid hl';clear h HF h';go_enter Tryz.func32,Tryz.ntmps32;go_wp2_with fail;go_loopw [7,17] (fun _ i wr=>∃ k:Nat,k <= n /\ i=.int .i64 k /\ Hid (((xs.zip ys).take k).all (fun q=>p q.1 q.2)=true) /\ Below w.heap.size w wr) (fun _ i _=>n - (intOf i).toNat)
  case atStart=>exact ⟨0,qXf _,rfl,by simp [Hid],qXh _ _⟩
  case round =>
   obtain ⟨k,hkn,rfl,HA,hb⟩:=hrel;have hsz:=hb.size;have HB:=hid hb;clear hb;by_cases hk:k < n
   ·obtain ⟨x,hx⟩:∃ x,xs[k]?=some x:=⟨xs[k]'(by omega),qW6 (by omega)⟩
    obtain ⟨z,hz⟩:∃ y,ys[k]?=some y:=⟨ys[k]'(by omega),qW6 (by omega)⟩
    have hzp:(xs.zip ys)[k]?=some (x,z):=by rw [List.getElem?_zip_eq_some];exact ⟨hx,hz⟩
    obtain ⟨b,off,cs,rfl,hcl,hR,hc⟩:=RdG.elem (H.out.below HB.out) hx;obtain ⟨y1,y2⟩:=x;obtain ⟨a1,n1,k1,a2,n2,k2,rfl,hr1,hr2⟩:=hR.now;obtain ⟨b',off',cs',rfl,hcl',hR',hc'⟩:=RdG.elem (H'.out.below (HB.out.trans ((Bl.alloc (Bl.refl wr) (.cells #[.slice a1 n1 k1,.slice a2 n2 k2] 53)).mono hsz))) hz;obtain ⟨z1,z2⟩:=z;obtain ⟨d1,m1,j1,d2,m2,j2,rfl,gr1,gr2⟩:=hR'.now;have c0:=hc 0 _ rfl;rw [qXd] at c0;have c1:=hc 1 _ rfl;have g0:=hc' 0 _ rfl;rw [qXd] at g0;have g1:=hc' 1 _ rfl;have HR:=hid hR;have HR':=hid hR';have hcut:=hid (qX (fun q:MTy × MTy=>p q.1 q.2) (xs.zip ys) k _ hzp HA.out);clear hc hR hx hcl hr1 hr2 hl hc' hR' hz hcl' gr1 gr2 hl' hzp;have hcall:=HFF.out ((wr.alloc (.cells #[.slice a1 n1 k1,.slice a2 n2 k2] 53)).alloc (.cells #[.slice d1 m1 j1,.slice d2 m2 j2] 53)) _ _ _ _ ((HR.out.alloc _).alloc _) (HR'.out.alloc _)
    obtain ⟨px,hpx⟩:∃ px,p ⟨y1,y2⟩ ⟨z1,z2⟩=px:=⟨_,rfl⟩
    rw [hpx] at hcall;have HCALL:=hid hcall;have HPX:=hid hpx;clear hpx hcall;go_wp2_with fail;refine HCALL.out.mono ?_;rintro e w1 ⟨rfl,hb1⟩;have HB1:=hid (HB.out.trans ((Bl.step (Bl.alloc (Bl.alloc (Bl.refl wr) _) _) hb1).mono hsz));clear hb1 HCALL c0 c1 g0 g1
    cases px with
    | true =>
      have HA2:=hid (hcut.out.2 HPX.out);clear hcut HPX HA;go_wp2_with fail;go_roundw
      case rel=>exact ⟨k + 1,by omega,by go_num,HA2.out,HB1.out⟩
      case measure=>simp [intOf];omega
    | false =>
      have HA2:=hid (hcut.out.1 HPX.out);clear hcut HPX HA;go_wp2_with fail;exact bodyPost_ret (v:=.bool false) (by simp [results,Tryz.results32,go_sem]) rfl ⟨by rw [HA2.out],HB1.out⟩
   ·have e0:k=n:=by omega
    subst e0;have ht:(xs.zip ys).take k=xs.zip ys:=qW9 (by rw [List.length_zip,Hl.out,Hl'.out];simp);have ha:=HA.out;rw [ht] at ha;have HA2:=hid ha;clear ht ha hl hl';go_wp2_with fail;exact bodyPost_ret (v:=.bool true) (by simp [results,Tryz.results32,go_sem]) rfl ⟨by rw [HA2.out],HB.out⟩
 ·rw [zH (by rw [hl,hl'];exact hnm)]
  have e':((n:Int) != (m:Int))=true:=by simp;omega
  clear h h' HF hl hl';go_enter Tryz.func32,Tryz.ntmps32;go_wp2_with fail;go_ret;exact ⟨rfl,qXh _ _⟩
theorem qPo (g:Nat) (p:MEl -> MEl -> Bool) (ao:Option Addr) (n cap:Nat) (xs:List (MEl)) (bo:Option Addr) (m bap:Nat) (ys:List (MEl)) (w:World) (h:Rx w fun w=>RdG 2 (ElR) w ao n cap xs) (h':Rx w fun w=>RdG 2 (ElR) w bo m bap ys) (he:∀ args w,(callFunc g args).run Tryz.prog w=.ok (.enter g args) w)
    (HF:∀ w cs x ds y,(Rx w fun w=>ElR w cs x) -> (Rx w fun w=>ElR w ds y) -> Calls Tryz.prog g #[.agg cs.toArray,.agg ds.toArray] w fun e w'=>e=.returned (.bool (p x y)) /\ Below w.heap.size w w') :
    Calls Tryz.prog 38 #[.slice ao n cap,.slice bo m bap,.func (.func g) #[] #[]] w fun e w'=>e=.returned (.bool (eqG p xs ys)) /\ Below w.heap.size w w':=by
 have hl:=h.now.len
 have hl':=h'.now.len
 obtain ⟨h63,_⟩:=h.now.cap63
 obtain ⟨g63,_⟩:=h'.now.cap63
 by_cases hnm:n=m
 ·subst hnm
  rw [jC (by rw [hl,hl'])];have H:=hid h;have H':=hid h';have HFF:=hid HF;have Hl:=hid hl;have Hl':=hid hl';clear h HF h';go_enter Tryz.func38,Tryz.ntmps38;go_wp2_with fail;go_loopw [7,17] (fun _ i wr=>∃ k:Nat,k <= n /\ i=.int .i64 k /\ Hid (((xs.zip ys).take k).all (fun q=>p q.1 q.2)=true) /\ Below w.heap.size w wr) (fun _ i _=>n - (intOf i).toNat)
  case atStart=>exact ⟨0,qXf _,rfl,by simp [Hid],qXh _ _⟩
  case round =>
   obtain ⟨k,hkn,rfl,HA,hb⟩:=hrel;have hsz:=hb.size;have HB:=hid hb;clear hb;by_cases hk:k < n
   ·obtain ⟨x,hx⟩:∃ x,xs[k]?=some x:=⟨xs[k]'(by omega),qW6 (by omega)⟩
    obtain ⟨z,hz⟩:∃ y,ys[k]?=some y:=⟨ys[k]'(by omega),qW6 (by omega)⟩
    have hzp:(xs.zip ys)[k]?=some (x,z):=by rw [List.getElem?_zip_eq_some];exact ⟨hx,hz⟩
    obtain ⟨b,off,cs,rfl,hcl,hR,hc⟩:=RdG.elem (H.out.below HB.out) hx;obtain ⟨y1,y2⟩:=x;obtain ⟨a1,n1,k1,rfl,hr1⟩:=hR.now;obtain ⟨b',off',cs',rfl,hcl',hR',hc'⟩:=RdG.elem (H'.out.below (HB.out.trans ((Bl.alloc (Bl.refl wr) (.cells #[.int .i64 y1,.slice a1 n1 k1] 67)).mono hsz))) hz;obtain ⟨z1,z2⟩:=z;obtain ⟨d1,m1,j1,rfl,gr1⟩:=hR'.now;have c0:=hc 0 _ rfl;rw [qXd] at c0;have c1:=hc 1 _ rfl;have g0:=hc' 0 _ rfl;rw [qXd] at g0;have g1:=hc' 1 _ rfl;have HR:=hid hR;have HR':=hid hR';have hcut:=hid (qX (fun q:MEl × MEl=>p q.1 q.2) (xs.zip ys) k _ hzp HA.out);clear hc hR hx hcl hr1 hl hc' hR' hz hcl' gr1 hl' hzp;have hcall:=HFF.out ((wr.alloc (.cells #[.int .i64 y1,.slice a1 n1 k1] 67)).alloc (.cells #[.int .i64 z1,.slice d1 m1 j1] 67)) _ _ _ _ ((HR.out.alloc _).alloc _) (HR'.out.alloc _)
    obtain ⟨px,hpx⟩:∃ px,p ⟨y1,y2⟩ ⟨z1,z2⟩=px:=⟨_,rfl⟩
    rw [hpx] at hcall;have HCALL:=hid hcall;have HPX:=hid hpx;clear hpx hcall;go_wp2_with fail;refine HCALL.out.mono ?_;rintro e w1 ⟨rfl,hb1⟩;have HB1:=hid (HB.out.trans ((Bl.step (Bl.alloc (Bl.alloc (Bl.refl wr) _) _) hb1).mono hsz));clear hb1 HCALL c0 c1 g0 g1
    cases px with
    | true =>
      have HA2:=hid (hcut.out.2 HPX.out);clear hcut HPX HA;go_wp2_with fail;go_roundw
      case rel=>exact ⟨k + 1,by omega,by go_num,HA2.out,HB1.out⟩
      case measure=>simp [intOf];omega
    | false =>
      have HA2:=hid (hcut.out.1 HPX.out);clear hcut HPX HA;go_wp2_with fail;exact bodyPost_ret (v:=.bool false) (by simp [results,Tryz.results38,go_sem]) rfl ⟨by rw [HA2.out],HB1.out⟩
   ·have e0:k=n:=by omega
    subst e0;have ht:(xs.zip ys).take k=xs.zip ys:=qW9 (by rw [List.length_zip,Hl.out,Hl'.out];simp);have ha:=HA.out;rw [ht] at ha;have HA2:=hid ha;clear ht ha hl hl';go_wp2_with fail;exact bodyPost_ret (v:=.bool true) (by simp [results,Tryz.results38,go_sem]) rfl ⟨by rw [HA2.out],HB.out⟩
 ·rw [zH (by rw [hl,hl'];exact hnm)]
  have e':((n:Int) != (m:Int))=true:=by simp;omega
  clear h h' HF hl hl';go_enter Tryz.func38,Tryz.ntmps38;go_wp2_with fail;go_ret;exact ⟨rfl,qXh _ _⟩
theorem qPp (g:Nat) (p:MCo -> MCo -> Bool) (ao:Option Addr) (n cap:Nat) (xs:List (MCo)) (bo:Option Addr) (m bap:Nat) (ys:List (MCo)) (w:World) (h:Rx w fun w=>RdG 2 (CoR) w ao n cap xs) (h':Rx w fun w=>RdG 2 (CoR) w bo m bap ys) (he:∀ args w,(callFunc g args).run Tryz.prog w=.ok (.enter g args) w)
    (HF:∀ w cs x ds y,(Rx w fun w=>CoR w cs x) -> (Rx w fun w=>CoR w ds y) -> Calls Tryz.prog g #[.agg cs.toArray,.agg ds.toArray] w fun e w'=>e=.returned (.bool (p x y)) /\ Below w.heap.size w w') :
    Calls Tryz.prog 40 #[.slice ao n cap,.slice bo m bap,.func (.func g) #[] #[]] w fun e w'=>e=.returned (.bool (eqG p xs ys)) /\ Below w.heap.size w w':=by
 have hl:=h.now.len
 have hl':=h'.now.len
 obtain ⟨h63,_⟩:=h.now.cap63
 obtain ⟨g63,_⟩:=h'.now.cap63
 by_cases hnm:n=m
 ·subst hnm
  rw [jC (by rw [hl,hl'])];have H:=hid h;have H':=hid h';have HFF:=hid HF;have Hl:=hid hl;have Hl':=hid hl';clear h HF h';go_enter Tryz.func40,Tryz.ntmps40;go_wp2_with fail;go_loopw [7,17] (fun _ i wr=>∃ k:Nat,k <= n /\ i=.int .i64 k /\ Hid (((xs.zip ys).take k).all (fun q=>p q.1 q.2)=true) /\ Below w.heap.size w wr) (fun _ i _=>n - (intOf i).toNat)
  case atStart=>exact ⟨0,qXf _,rfl,by simp [Hid],qXh _ _⟩
  case round =>
   obtain ⟨k,hkn,rfl,HA,hb⟩:=hrel;have hsz:=hb.size;have HB:=hid hb;clear hb;by_cases hk:k < n
   ·obtain ⟨x,hx⟩:∃ x,xs[k]?=some x:=⟨xs[k]'(by omega),qW6 (by omega)⟩
    obtain ⟨z,hz⟩:∃ y,ys[k]?=some y:=⟨ys[k]'(by omega),qW6 (by omega)⟩
    have hzp:(xs.zip ys)[k]?=some (x,z):=by rw [List.getElem?_zip_eq_some];exact ⟨hx,hz⟩
    obtain ⟨b,off,cs,rfl,hcl,hR,hc⟩:=RdG.elem (H.out.below HB.out) hx;obtain ⟨y1,y2⟩:=x;obtain ⟨a1,n1,k1,a2,n2,k2,rfl,hr1,hr2⟩:=hR.now;obtain ⟨b',off',cs',rfl,hcl',hR',hc'⟩:=RdG.elem (H'.out.below (HB.out.trans ((Bl.alloc (Bl.refl wr) (.cells #[.slice a1 n1 k1,.slice a2 n2 k2] 49)).mono hsz))) hz;obtain ⟨z1,z2⟩:=z;obtain ⟨d1,m1,j1,d2,m2,j2,rfl,gr1,gr2⟩:=hR'.now;have c0:=hc 0 _ rfl;rw [qXd] at c0;have c1:=hc 1 _ rfl;have g0:=hc' 0 _ rfl;rw [qXd] at g0;have g1:=hc' 1 _ rfl;have HR:=hid hR;have HR':=hid hR';have hcut:=hid (qX (fun q:MCo × MCo=>p q.1 q.2) (xs.zip ys) k _ hzp HA.out);clear hc hR hx hcl hr1 hr2 hl hc' hR' hz hcl' gr1 gr2 hl' hzp;have hcall:=HFF.out ((wr.alloc (.cells #[.slice a1 n1 k1,.slice a2 n2 k2] 49)).alloc (.cells #[.slice d1 m1 j1,.slice d2 m2 j2] 49)) _ _ _ _ ((HR.out.alloc _).alloc _) (HR'.out.alloc _)
    obtain ⟨px,hpx⟩:∃ px,p ⟨y1,y2⟩ ⟨z1,z2⟩=px:=⟨_,rfl⟩
    rw [hpx] at hcall;have HCALL:=hid hcall;have HPX:=hid hpx;clear hpx hcall;go_wp2_with fail;refine HCALL.out.mono ?_;rintro e w1 ⟨rfl,hb1⟩;have HB1:=hid (HB.out.trans ((Bl.step (Bl.alloc (Bl.alloc (Bl.refl wr) _) _) hb1).mono hsz));clear hb1 HCALL c0 c1 g0 g1
    cases px with
    | true =>
      have HA2:=hid (hcut.out.2 HPX.out);clear hcut HPX HA;go_wp2_with fail;go_roundw
      case rel=>exact ⟨k + 1,by omega,by go_num,HA2.out,HB1.out⟩
      case measure=>simp [intOf];omega
    | false =>
      have HA2:=hid (hcut.out.1 HPX.out);clear hcut HPX HA;go_wp2_with fail;exact bodyPost_ret (v:=.bool false) (by simp [results,Tryz.results40,go_sem]) rfl ⟨by rw [HA2.out],HB1.out⟩
   ·have e0:k=n:=by omega
    subst e0;have ht:(xs.zip ys).take k=xs.zip ys:=qW9 (by rw [List.length_zip,Hl.out,Hl'.out];simp);have ha:=HA.out;rw [ht] at ha;have HA2:=hid ha;clear ht ha hl hl';go_wp2_with fail;exact bodyPost_ret (v:=.bool true) (by simp [results,Tryz.results40,go_sem]) rfl ⟨by rw [HA2.out],HB.out⟩
 ·rw [zH (by rw [hl,hl'];exact hnm)]
  have e':((n:Int) != (m:Int))=true:=by simp;omega
  clear h h' HF hl hl';go_enter Tryz.func40,Tryz.ntmps40;go_wp2_with fail;go_ret;exact ⟨rfl,qXh _ _⟩
theorem qPq (g:Nat) (p:MDa -> MDa -> Bool) (ao:Option Addr) (n cap:Nat) (xs:List (MDa)) (bo:Option Addr) (m bap:Nat) (ys:List (MDa)) (w:World) (h:Rx w fun w=>RdG 2 (DaR) w ao n cap xs) (h':Rx w fun w=>RdG 2 (DaR) w bo m bap ys) (he:∀ args w,(callFunc g args).run Tryz.prog w=.ok (.enter g args) w)
    (HF:∀ w cs x ds y,(Rx w fun w=>DaR w cs x) -> (Rx w fun w=>DaR w ds y) -> Calls Tryz.prog g #[.agg cs.toArray,.agg ds.toArray] w fun e w'=>e=.returned (.bool (p x y)) /\ Below w.heap.size w w') :
    Calls Tryz.prog 42 #[.slice ao n cap,.slice bo m bap,.func (.func g) #[] #[]] w fun e w'=>e=.returned (.bool (eqG p xs ys)) /\ Below w.heap.size w w':=by
 have hl:=h.now.len
 have hl':=h'.now.len
 obtain ⟨h63,_⟩:=h.now.cap63
 obtain ⟨g63,_⟩:=h'.now.cap63
 by_cases hnm:n=m
 ·subst hnm
  rw [jC (by rw [hl,hl'])];have H:=hid h;have H':=hid h';have HFF:=hid HF;have Hl:=hid hl;have Hl':=hid hl';clear h HF h';go_enter Tryz.func42,Tryz.ntmps42;go_wp2_with fail;go_loopw [7,17] (fun _ i wr=>∃ k:Nat,k <= n /\ i=.int .i64 k /\ Hid (((xs.zip ys).take k).all (fun q=>p q.1 q.2)=true) /\ Below w.heap.size w wr) (fun _ i _=>n - (intOf i).toNat)
  case atStart=>exact ⟨0,qXf _,rfl,by simp [Hid],qXh _ _⟩
  case round =>
   obtain ⟨k,hkn,rfl,HA,hb⟩:=hrel;have hsz:=hb.size;have HB:=hid hb;clear hb;by_cases hk:k < n
   ·obtain ⟨x,hx⟩:∃ x,xs[k]?=some x:=⟨xs[k]'(by omega),qW6 (by omega)⟩
    obtain ⟨z,hz⟩:∃ y,ys[k]?=some y:=⟨ys[k]'(by omega),qW6 (by omega)⟩
    have hzp:(xs.zip ys)[k]?=some (x,z):=by rw [List.getElem?_zip_eq_some];exact ⟨hx,hz⟩
    obtain ⟨b,off,cs,rfl,hcl,hR,hc⟩:=RdG.elem (H.out.below HB.out) hx;obtain ⟨y1,y2⟩:=x;obtain ⟨a1,n1,k1,rfl,hr1⟩:=hR.now;obtain ⟨b',off',cs',rfl,hcl',hR',hc'⟩:=RdG.elem (H'.out.below (HB.out.trans ((Bl.alloc (Bl.refl wr) (.cells #[.int .i64 y1,.slice a1 n1 k1] 44)).mono hsz))) hz;obtain ⟨z1,z2⟩:=z;obtain ⟨d1,m1,j1,rfl,gr1⟩:=hR'.now;have c0:=hc 0 _ rfl;rw [qXd] at c0;have c1:=hc 1 _ rfl;have g0:=hc' 0 _ rfl;rw [qXd] at g0;have g1:=hc' 1 _ rfl;have HR:=hid hR;have HR':=hid hR';have hcut:=hid (qX (fun q:MDa × MDa=>p q.1 q.2) (xs.zip ys) k _ hzp HA.out);clear hc hR hx hcl hr1 hl hc' hR' hz hcl' gr1 hl' hzp;have hcall:=HFF.out ((wr.alloc (.cells #[.int .i64 y1,.slice a1 n1 k1] 44)).alloc (.cells #[.int .i64 z1,.slice d1 m1 j1] 44)) _ _ _ _ ((HR.out.alloc _).alloc _) (HR'.out.alloc _)
    obtain ⟨px,hpx⟩:∃ px,p ⟨y1,y2⟩ ⟨z1,z2⟩=px:=⟨_,rfl⟩
    rw [hpx] at hcall;have HCALL:=hid hcall;have HPX:=hid hpx;clear hpx hcall;go_wp2_with fail;refine HCALL.out.mono ?_;rintro e w1 ⟨rfl,hb1⟩;have HB1:=hid (HB.out.trans ((Bl.step (Bl.alloc (Bl.alloc (Bl.refl wr) _) _) hb1).mono hsz));clear hb1 HCALL c0 c1 g0 g1
    cases px with
    | true =>
      have HA2:=hid (hcut.out.2 HPX.out);clear hcut HPX HA;go_wp2_with fail;go_roundw
      case rel=>exact ⟨k + 1,by omega,by go_num,HA2.out,HB1.out⟩
      case measure=>simp [intOf];omega
    | false =>
      have HA2:=hid (hcut.out.1 HPX.out);clear hcut HPX HA;go_wp2_with fail;exact bodyPost_ret (v:=.bool false) (by simp [results,Tryz.results42,go_sem]) rfl ⟨by rw [HA2.out],HB1.out⟩
   ·have e0:k=n:=by omega
    subst e0;have ht:(xs.zip ys).take k=xs.zip ys:=qW9 (by rw [List.length_zip,Hl.out,Hl'.out];simp);have ha:=HA.out;rw [ht] at ha;have HA2:=hid ha;clear ht ha hl hl';go_wp2_with fail;exact bodyPost_ret (v:=.bool true) (by simp [results,Tryz.results42,go_sem]) rfl ⟨by rw [HA2.out],HB.out⟩
 ·rw [zH (by rw [hl,hl'];exact hnm)]
  have e':((n:Int) != (m:Int))=true:=by simp;omega
  clear h h' HF hl hl';go_enter Tryz.func42,Tryz.ntmps42;go_wp2_with fail;go_ret;exact ⟨rfl,qXh _ _⟩
theorem qPr (g:Nat) (p:Ins -> Ins -> Bool) (ao:Option Addr) (n cap:Nat) (xs:List (Ins)) (bo:Option Addr) (m bap:Nat) (ys:List (Ins)) (w:World) (h:Rx w fun w=>RdG 4 (InR) w ao n cap xs) (h':Rx w fun w=>RdG 4 (InR) w bo m bap ys) (he:∀ args w,(callFunc g args).run Tryz.prog w=.ok (.enter g args) w)
    (HF:∀ w cs x ds y,(Rx w fun w=>InR w cs x) -> (Rx w fun w=>InR w ds y) -> Calls Tryz.prog g #[.agg cs.toArray,.agg ds.toArray] w fun e w'=>e=.returned (.bool (p x y)) /\ Below w.heap.size w w') :
    Calls Tryz.prog 99 #[.slice ao n cap,.slice bo m bap,.func (.func g) #[] #[]] w fun e w'=>e=.returned (.bool (eqG p xs ys)) /\ Below w.heap.size w w':=by
 have hl:=h.now.len
 have hl':=h'.now.len
 obtain ⟨h63,_⟩:=h.now.cap63
 obtain ⟨g63,_⟩:=h'.now.cap63
 by_cases hnm:n=m
 ·subst hnm
  rw [jC (by rw [hl,hl'])];have H:=hid h;have H':=hid h';have HFF:=hid HF;have Hl:=hid hl;have Hl':=hid hl';clear h HF h';go_enter Tryz.func99,Tryz.ntmps99;go_wp2_with fail;go_loopw [7,17] (fun _ i wr=>∃ k:Nat,k <= n /\ i=.int .i64 k /\ Hid (((xs.zip ys).take k).all (fun q=>p q.1 q.2)=true) /\ Below w.heap.size w wr) (fun _ i _=>n - (intOf i).toNat)
  case atStart=>exact ⟨0,qXf _,rfl,by simp [Hid],qXh _ _⟩
  case round =>
   obtain ⟨k,hkn,rfl,HA,hb⟩:=hrel;have hsz:=hb.size;have HB:=hid hb;clear hb;by_cases hk:k < n
   ·obtain ⟨x,hx⟩:∃ x,xs[k]?=some x:=⟨xs[k]'(by omega),qW6 (by omega)⟩
    obtain ⟨z,hz⟩:∃ y,ys[k]?=some y:=⟨ys[k]'(by omega),qW6 (by omega)⟩
    have hzp:(xs.zip ys)[k]?=some (x,z):=by rw [List.getElem?_zip_eq_some];exact ⟨hx,hz⟩
    obtain ⟨b,off,cs,rfl,hcl,hR,hc⟩:=RdG.elem (H.out.below HB.out) hx;obtain ⟨y1,y2,y3,y4⟩:=x;obtain ⟨a1,n1,k1,rfl,hr1,hok⟩:=hR.now;obtain ⟨b',off',cs',rfl,hcl',hR',hc'⟩:=RdG.elem (H'.out.below (HB.out.trans ((Bl.alloc (Bl.refl wr) (.cells #[.int .i64 y1,.int .i64 y2,.int .i64 y3,.slice a1 n1 k1] 51)).mono hsz))) hz;obtain ⟨z1,z2,z3,z4⟩:=z;obtain ⟨d1,m1,j1,rfl,gr1,gok⟩:=hR'.now;have c0:=hc 0 _ rfl;rw [qXd] at c0;have c1:=hc 1 _ rfl;have c2:=hc 2 _ rfl;have c3:=hc 3 _ rfl;have g0:=hc' 0 _ rfl;rw [qXd] at g0;have g1:=hc' 1 _ rfl;have g2:=hc' 2 _ rfl;have g3:=hc' 3 _ rfl;have HR:=hid hR;have HR':=hid hR';have hcut:=hid (qX (fun q:Ins × Ins=>p q.1 q.2) (xs.zip ys) k _ hzp HA.out);clear hc hR hx hcl hr1 hok hl hc' hR' hz hcl' gr1 gok hl' hzp;have hcall:=HFF.out ((wr.alloc (.cells #[.int .i64 y1,.int .i64 y2,.int .i64 y3,.slice a1 n1 k1] 51)).alloc (.cells #[.int .i64 z1,.int .i64 z2,.int .i64 z3,.slice d1 m1 j1] 51)) _ _ _ _ ((HR.out.alloc _).alloc _) (HR'.out.alloc _)
    obtain ⟨px,hpx⟩:∃ px,p ⟨y1,y2,y3,y4⟩ ⟨z1,z2,z3,z4⟩=px:=⟨_,rfl⟩
    rw [hpx] at hcall;have HCALL:=hid hcall;have HPX:=hid hpx;clear hpx hcall;go_wp2_with fail;refine HCALL.out.mono ?_;rintro e w1 ⟨rfl,hb1⟩;have HB1:=hid (HB.out.trans ((Bl.step (Bl.alloc (Bl.alloc (Bl.refl wr) _) _) hb1).mono hsz));clear hb1 HCALL c0 c1 c2 c3 g0 g1 g2 g3
    cases px with
    | true =>
      have HA2:=hid (hcut.out.2 HPX.out);clear hcut HPX HA;go_wp2_with fail;go_roundw
      case rel=>exact ⟨k + 1,by omega,by go_num,HA2.out,HB1.out⟩
      case measure=>simp [intOf];omega
    | false =>
      have HA2:=hid (hcut.out.1 HPX.out);clear hcut HPX HA;go_wp2_with fail;exact bodyPost_ret (v:=.bool false) (by simp [results,Tryz.results99,go_sem]) rfl ⟨by rw [HA2.out],HB1.out⟩
   ·have e0:k=n:=by omega
    subst e0;have ht:(xs.zip ys).take k=xs.zip ys:=qW9 (by rw [List.length_zip,Hl.out,Hl'.out];simp);have ha:=HA.out;rw [ht] at ha;have HA2:=hid ha;clear ht ha hl hl';go_wp2_with fail;exact bodyPost_ret (v:=.bool true) (by simp [results,Tryz.results99,go_sem]) rfl ⟨by rw [HA2.out],HB.out⟩
 ·rw [zH (by rw [hl,hl'];exact hnm)]
  have e':((n:Int) != (m:Int))=true:=by simp;omega
  clear h h' HF hl hl';go_enter Tryz.func99,Tryz.ntmps99;go_wp2_with fail;go_ret;exact ⟨rfl,qXh _ _⟩
theorem qV1 (y1 y2 z1 z2:ByteArray) (y3 z3:Int) (w:World):(binOp .neq 62 (.agg #[.string y1,.string y2,.int .i64 y3]) (.agg #[.string z1,.string z2,.int .i64 z3])).run Tryz.prog w=.ok (.bool (!(qEx ⟨y1,y2,y3⟩ ⟨z1,z2,z3⟩))) w:=by
 go_simp;unfold qEx;simp only [qD3];by_cases h1:y1=z1
 ·by_cases h2:y2=z2
  ·by_cases h3:y3=z3
   ·simp [h1,h2,h3]
   ·simp [h1,h2,h3]
  ·simp [h1,h2]
 ·simp [h1]
theorem qPs (ao:Option Addr) (n cap:Nat) (xs:List (MIm)) (bo:Option Addr) (m bap:Nat) (ys:List (MIm)) (w:World) (h:Rx w fun w=>RdG 3 (ImR) w ao n cap xs) (h':Rx w fun w=>RdG 3 (ImR) w bo m bap ys) :
    Calls Tryz.prog 34 #[.slice ao n cap,.slice bo m bap] w fun e w'=>e=.returned (.bool (eqG qEx xs ys)) /\ Below w.heap.size w w':=by
 have hl:=h.now.len
 have hl':=h'.now.len
 obtain ⟨h63,_⟩:=h.now.cap63
 obtain ⟨g63,_⟩:=h'.now.cap63
 by_cases hnm:n=m
 ·subst hnm
  rw [jC (by rw [hl,hl'])];have H:=hid h;have H':=hid h';have Hl:=hid hl;have Hl':=hid hl';clear h h';go_enter Tryz.func34,Tryz.ntmps34;go_wp2_with fail;go_loopw [5,13] (fun _ i wr=>∃ k:Nat,k <= n /\ i=.int .i64 k /\ Hid (((xs.zip ys).take k).all (fun q=>qEx q.1 q.2)=true) /\ Below w.heap.size w wr) (fun _ i _=>n - (intOf i).toNat)
  case atStart=>exact ⟨0,qXf _,rfl,by simp [Hid],qXh _ _⟩
  case round =>
   obtain ⟨k,hkn,rfl,HA,hb⟩:=hrel;have hsz:=hb.size;have HB:=hid hb;clear hb;by_cases hk:k < n
   ·obtain ⟨x,hx⟩:∃ x,xs[k]?=some x:=⟨xs[k]'(by omega),qW6 (by omega)⟩
    obtain ⟨z,hz⟩:∃ y,ys[k]?=some y:=⟨ys[k]'(by omega),qW6 (by omega)⟩
    have hzp:(xs.zip ys)[k]?=some (x,z):=by rw [List.getElem?_zip_eq_some];exact ⟨hx,hz⟩
    obtain ⟨b,off,cs,rfl,hcl,hR,hc⟩:=RdG.elem (H.out.below HB.out) hx;obtain ⟨b',off',cs',rfl,hcl',hR',hc'⟩:=RdG.elem (H'.out.below HB.out) hz;obtain ⟨y1,y2,y3⟩:=x;obtain ⟨z1,z2,z3⟩:=z;obtain rfl:=hR.now;obtain rfl:=hR'.now;have c0:=hc 0 _ rfl;rw [qXd] at c0;have c1:=hc 1 _ rfl;have c2:=hc 2 _ rfl;have g0:=hc' 0 _ rfl;rw [qXd] at g0;have g1:=hc' 1 _ rfl;have g2:=hc' 2 _ rfl;have hcut:=hid (qX (fun q:MIm × MIm=>qEx q.1 q.2) (xs.zip ys) k _ hzp HA.out);clear hc hR hx hcl hl hc' hR' hz hcl' hl' hzp;have hneq:=qV1 y1 y2 z1 z2 y3 z3
    obtain ⟨px,hpx⟩:∃ px,qEx ⟨y1,y2,y3⟩ ⟨z1,z2,z3⟩=px:=⟨_,rfl⟩
    rw [hpx] at hneq;have HPX:=hid hpx;clear hpx
    cases px with
    | true =>
      have HA2:=hid (hcut.out.2 HPX.out);clear hcut HPX HA;go_wp2_with fail;go_quiet (fail);go_wp2_with fail;go_roundw
      case rel=>exact ⟨k + 1,by omega,by go_num,HA2.out,HB.out.trans (qW _ _ _)⟩
      case measure=>simp [intOf];omega
    | false =>
      have HA2:=hid (hcut.out.1 HPX.out);clear hcut HPX HA;go_wp2_with fail;go_quiet (fail);go_wp2_with fail;exact bodyPost_ret (v:=.bool false) (by simp [results,Tryz.results34,go_sem]) rfl ⟨by rw [HA2.out],HB.out.trans (qW _ _ _)⟩
   ·have e0:k=n:=by omega
    subst e0;have ht:(xs.zip ys).take k=xs.zip ys:=qW9 (by rw [List.length_zip,Hl.out,Hl'.out];simp);have ha:=HA.out;rw [ht] at ha;have HA2:=hid ha;clear ht ha hl hl';go_wp2_with fail;exact bodyPost_ret (v:=.bool true) (by simp [results,Tryz.results34,go_sem]) rfl ⟨by rw [HA2.out],HB.out⟩
 ·rw [zH (by rw [hl,hl'];exact hnm)]
  have e':((n:Int) != (m:Int))=true:=by simp;omega
  clear h h' hl hl';go_enter Tryz.func34,Tryz.ntmps34;go_wp2_with fail;go_ret;exact ⟨rfl,qXh _ _⟩
theorem qV2 (y1 z1:Bool) (y2 y3 z2 z3:Int) (w:World):(binOp .neq 58 (.agg #[.bool y1,.int .i64 y2,.int .i64 y3]) (.agg #[.bool z1,.int .i64 z2,.int .i64 z3])).run Tryz.prog w=.ok (.bool (!(qEy ⟨y1,y2,y3⟩ ⟨z1,z2,z3⟩))) w:=by
 go_simp;unfold qEy;by_cases h1:y1=z1
 ·by_cases h2:y2=z2
  ·by_cases h3:y3=z3
   ·simp [h1,h2,h3]
   ·simp [h1,h2,h3]
  ·simp [h1,h2]
 ·simp [h1]
theorem qPt (ao:Option Addr) (n cap:Nat) (xs:List (MGl)) (bo:Option Addr) (m bap:Nat) (ys:List (MGl)) (w:World) (h:Rx w fun w=>RdG 3 (GlR) w ao n cap xs) (h':Rx w fun w=>RdG 3 (GlR) w bo m bap ys) :
    Calls Tryz.prog 36 #[.slice ao n cap,.slice bo m bap] w fun e w'=>e=.returned (.bool (eqG qEy xs ys)) /\ Below w.heap.size w w':=by
 have hl:=h.now.len
 have hl':=h'.now.len
 obtain ⟨h63,_⟩:=h.now.cap63
 obtain ⟨g63,_⟩:=h'.now.cap63
 by_cases hnm:n=m
 ·subst hnm
  rw [jC (by rw [hl,hl'])];have H:=hid h;have H':=hid h';have Hl:=hid hl;have Hl':=hid hl';clear h h';go_enter Tryz.func36,Tryz.ntmps36;go_wp2_with fail;go_loopw [5,13] (fun _ i wr=>∃ k:Nat,k <= n /\ i=.int .i64 k /\ Hid (((xs.zip ys).take k).all (fun q=>qEy q.1 q.2)=true) /\ Below w.heap.size w wr) (fun _ i _=>n - (intOf i).toNat)
  case atStart=>exact ⟨0,qXf _,rfl,by simp [Hid],qXh _ _⟩
  case round =>
   obtain ⟨k,hkn,rfl,HA,hb⟩:=hrel;have hsz:=hb.size;have HB:=hid hb;clear hb;by_cases hk:k < n
   ·obtain ⟨x,hx⟩:∃ x,xs[k]?=some x:=⟨xs[k]'(by omega),qW6 (by omega)⟩
    obtain ⟨z,hz⟩:∃ y,ys[k]?=some y:=⟨ys[k]'(by omega),qW6 (by omega)⟩
    have hzp:(xs.zip ys)[k]?=some (x,z):=by rw [List.getElem?_zip_eq_some];exact ⟨hx,hz⟩
    obtain ⟨b,off,cs,rfl,hcl,hR,hc⟩:=RdG.elem (H.out.below HB.out) hx;obtain ⟨b',off',cs',rfl,hcl',hR',hc'⟩:=RdG.elem (H'.out.below HB.out) hz;obtain ⟨y1,y2,y3⟩:=x;obtain ⟨z1,z2,z3⟩:=z;obtain ⟨rfl,hy1,hy2⟩:=hR.now;obtain ⟨rfl,gy1,gy2⟩:=hR'.now;have c0:=hc 0 _ rfl;rw [qXd] at c0;have c1:=hc 1 _ rfl;have c2:=hc 2 _ rfl;have g0:=hc' 0 _ rfl;rw [qXd] at g0;have g1:=hc' 1 _ rfl;have g2:=hc' 2 _ rfl;have hcut:=hid (qX (fun q:MGl × MGl=>qEy q.1 q.2) (xs.zip ys) k _ hzp HA.out);clear hc hR hx hcl hy1 hy2 hl hc' hR' hz hcl' gy1 gy2 hl' hzp;have hneq:=qV2 y1 z1 y2 y3 z2 z3
    obtain ⟨px,hpx⟩:∃ px,qEy ⟨y1,y2,y3⟩ ⟨z1,z2,z3⟩=px:=⟨_,rfl⟩
    rw [hpx] at hneq;have HPX:=hid hpx;clear hpx
    cases px with
    | true =>
      have HA2:=hid (hcut.out.2 HPX.out);clear hcut HPX HA;go_wp2_with fail;go_quiet (fail);go_wp2_with fail;go_roundw
      case rel=>exact ⟨k + 1,by omega,by go_num,HA2.out,HB.out.trans (qW _ _ _)⟩
      case measure=>simp [intOf];omega
    | false =>
      have HA2:=hid (hcut.out.1 HPX.out);clear hcut HPX HA;go_wp2_with fail;go_quiet (fail);go_wp2_with fail;exact bodyPost_ret (v:=.bool false) (by simp [results,Tryz.results36,go_sem]) rfl ⟨by rw [HA2.out],HB.out.trans (qW _ _ _)⟩
   ·have e0:k=n:=by omega
    subst e0;have ht:(xs.zip ys).take k=xs.zip ys:=qW9 (by rw [List.length_zip,Hl.out,Hl'.out];simp);have ha:=HA.out;rw [ht] at ha;have HA2:=hid ha;clear ht ha hl hl';go_wp2_with fail;exact bodyPost_ret (v:=.bool true) (by simp [results,Tryz.results36,go_sem]) rfl ⟨by rw [HA2.out],HB.out⟩
 ·rw [zH (by rw [hl,hl'];exact hnm)]
  have e':((n:Int) != (m:Int))=true:=by simp;omega
  clear h h' hl hl';go_enter Tryz.func36,Tryz.ntmps36;go_wp2_with fail;go_ret;exact ⟨rfl,qXh _ _⟩
theorem qV3 (y1 z1:ByteArray) (y2 z2:Int) (w:World):(binOp .neq 60 (.agg #[.string y1,.int .i64 y2]) (.agg #[.string z1,.int .i64 z2])).run Tryz.prog w=.ok (.bool (!(qFw ⟨y1,y2⟩ ⟨z1,z2⟩))) w:=by
 go_simp;unfold qFw;simp only [qD3];by_cases h1:y1=z1
 ·by_cases h2:y2=z2
  ·simp [h1,h2]
  ·simp [h1,h2]
 ·simp [h1]
theorem qPu (ao:Option Addr) (n cap:Nat) (xs:List (MEx)) (bo:Option Addr) (m bap:Nat) (ys:List (MEx)) (w:World) (h:Rx w fun w=>RdG 2 (ExR) w ao n cap xs) (h':Rx w fun w=>RdG 2 (ExR) w bo m bap ys) :
    Calls Tryz.prog 37 #[.slice ao n cap,.slice bo m bap] w fun e w'=>e=.returned (.bool (eqG qFw xs ys)) /\ Below w.heap.size w w':=by
 have hl:=h.now.len
 have hl':=h'.now.len
 obtain ⟨h63,_⟩:=h.now.cap63
 obtain ⟨g63,_⟩:=h'.now.cap63
 by_cases hnm:n=m
 ·subst hnm
  rw [jC (by rw [hl,hl'])];have H:=hid h;have H':=hid h';have Hl:=hid hl;have Hl':=hid hl';clear h h';go_enter Tryz.func37,Tryz.ntmps37;go_wp2_with fail;go_loopw [5,13] (fun _ i wr=>∃ k:Nat,k <= n /\ i=.int .i64 k /\ Hid (((xs.zip ys).take k).all (fun q=>qFw q.1 q.2)=true) /\ Below w.heap.size w wr) (fun _ i _=>n - (intOf i).toNat)
  case atStart=>exact ⟨0,qXf _,rfl,by simp [Hid],qXh _ _⟩
  case round =>
   obtain ⟨k,hkn,rfl,HA,hb⟩:=hrel;have hsz:=hb.size;have HB:=hid hb;clear hb;by_cases hk:k < n
   ·obtain ⟨x,hx⟩:∃ x,xs[k]?=some x:=⟨xs[k]'(by omega),qW6 (by omega)⟩
    obtain ⟨z,hz⟩:∃ y,ys[k]?=some y:=⟨ys[k]'(by omega),qW6 (by omega)⟩
    have hzp:(xs.zip ys)[k]?=some (x,z):=by rw [List.getElem?_zip_eq_some];exact ⟨hx,hz⟩
    obtain ⟨b,off,cs,rfl,hcl,hR,hc⟩:=RdG.elem (H.out.below HB.out) hx;obtain ⟨b',off',cs',rfl,hcl',hR',hc'⟩:=RdG.elem (H'.out.below HB.out) hz;obtain ⟨y1,y2⟩:=x;obtain ⟨z1,z2⟩:=z;obtain rfl:=hR.now;obtain rfl:=hR'.now;have c0:=hc 0 _ rfl;rw [qXd] at c0;have c1:=hc 1 _ rfl;have g0:=hc' 0 _ rfl;rw [qXd] at g0;have g1:=hc' 1 _ rfl;have hcut:=hid (qX (fun q:MEx × MEx=>qFw q.1 q.2) (xs.zip ys) k _ hzp HA.out);clear hc hR hx hcl hl hc' hR' hz hcl' hl' hzp;have hneq:=qV3 y1 z1 y2 z2
    obtain ⟨px,hpx⟩:∃ px,qFw ⟨y1,y2⟩ ⟨z1,z2⟩=px:=⟨_,rfl⟩
    rw [hpx] at hneq;have HPX:=hid hpx;clear hpx
    cases px with
    | true =>
      have HA2:=hid (hcut.out.2 HPX.out);clear hcut HPX HA;go_wp2_with fail;go_quiet (fail);go_wp2_with fail;go_roundw
      case rel=>exact ⟨k + 1,by omega,by go_num,HA2.out,HB.out.trans (qW _ _ _)⟩
      case measure=>simp [intOf];omega
    | false =>
      have HA2:=hid (hcut.out.1 HPX.out);clear hcut HPX HA;go_wp2_with fail;go_quiet (fail);go_wp2_with fail;exact bodyPost_ret (v:=.bool false) (by simp [results,Tryz.results37,go_sem]) rfl ⟨by rw [HA2.out],HB.out.trans (qW _ _ _)⟩
   ·have e0:k=n:=by omega
    subst e0;have ht:(xs.zip ys).take k=xs.zip ys:=qW9 (by rw [List.length_zip,Hl.out,Hl'.out];simp);have ha:=HA.out;rw [ht] at ha;have HA2:=hid ha;clear ht ha hl hl';go_wp2_with fail;exact bodyPost_ret (v:=.bool true) (by simp [results,Tryz.results37,go_sem]) rfl ⟨by rw [HA2.out],HB.out⟩
 ·rw [zH (by rw [hl,hl'];exact hnm)]
  have e':((n:Int) != (m:Int))=true:=by simp;omega
  clear h h' hl hl';go_enter Tryz.func37,Tryz.ntmps37;go_wp2_with fail;go_ret;exact ⟨rfl,qXh _ _⟩
open Go.RowKit
theorem qPv {w:World} {ao:Option Addr} {n cap:Nat} {xs:List Int} (h:Rd .u8 w ao n cap xs):∀ x ∈ xs,0 <= x /\ x <= 255:=fun x hx=>bounds_u8 (h.wf x hx)
theorem qA1 (ao:Option Addr) (n cap:Nat) (xs:List Int) (bo:Option Addr) (m bap:Nat) (ys:List Int) (w:World) (h:Rd .u8 w ao n cap xs) (h':Rd .u8 w bo m bap ys) :
    Calls Tryz.prog 48 #[.slice ao n cap,.slice bo m bap] w fun e w'=>e=.returned (.bool (xs == ys)) /\ Below w.heap.size w w':=by
 have hc1:=xP (P:=Tryz.prog) h 37 9 5 Tryz.underlying37 Tryz.underlying5 Tryz.underlying9
 have hc2:=xP (P:=Tryz.prog) h' 37 9 5 Tryz.underlying37 Tryz.underlying5 Tryz.underlying9
 have he:(strOfNums xs=strOfNums ys) ↔ xs=ys:=⟨fun e=>qAt (qPv h) (qPv h') e,fun e=>by rw [e]⟩
 obtain ⟨s1,hs1⟩:∃ s1,strOfNums xs=s1:=⟨_,rfl⟩
 obtain ⟨s2,hs2⟩:∃ s2,strOfNums ys=s2:=⟨_,rfl⟩
 rw [hs1] at hc1 he
 rw [hs2] at hc2 he
 have HE:=hid he
 clear hs1 hs2 he h h'
 by_cases e:xs=ys
 ·have e1:=HE.out.2 e
  subst e1;have er:(xs == ys)=true:=by simp [e]
  rw [er];clear e er HE;go_enter Tryz.func48,Tryz.ntmps48;go_wp2_with fail;go_ret;exact ⟨rb (by simp),qXh _ _⟩
 ·have e1:¬ s1=s2:=fun h=>e (HE.out.1 h)
  have e2:¬ s1.toList=s2.toList:=fun h=>e1 (qEd h)
  have er:(xs == ys)=false:=by simp [e]
  rw [er];clear e er HE;go_enter Tryz.func48,Tryz.ntmps48;go_wp2_with fail;go_ret;exact ⟨rb (by simp [e2]),qXh _ _⟩
theorem qMw (x y:MTy) (cs ds:List Value) (w:World) (h:Rx w fun w=>TyR w cs x) (h':Rx w fun w=>TyR w ds y):Calls Tryz.prog 33 #[.agg cs.toArray,.agg ds.toArray] w fun e w'=>e=.returned (.bool (qHx x y)) /\ Below w.heap.size w w':=by
 obtain ⟨a1,n1,k1,a2,n2,k2,rfl,hr1,hr2⟩:=h.now;obtain ⟨d1,m1,j1,d2,m2,j2,rfl,gr1,gr2⟩:=h'.now;obtain ⟨ps,rs⟩:=x;obtain ⟨qs,ts⟩:=y;have e1:qHx ⟨ps,rs⟩ ⟨qs,ts⟩=((ps == qs) && (rs == ts)):=rfl;rw [e1];have HR1:=hid hr1;have HR2:=hid hr2;have GR1:=hid gr1;have GR2:=hid gr2
 obtain ⟨t1,ht1⟩:∃ t1,(ps == qs)=t1:=⟨_,rfl⟩
 rw [ht1];have HT1:=hid ht1;clear ht1
 obtain ⟨t2,ht2⟩:∃ t2,(rs == ts)=t2:=⟨_,rfl⟩
 rw [ht2];have HT2:=hid ht2;clear ht2;have HB0:Hid (Below w.heap.size w ((w.alloc (.cells #[.slice a1 n1 k1,.slice a2 n2 k2] 53)).alloc (.cells #[.slice d1 m1 j1,.slice d2 m2 j2] 53))):=hid (Bl.alloc (Bl.alloc (Bl.refl w) _) _);have HX0:Hid (Cel ((w.alloc (.cells #[.slice a1 n1 k1,.slice a2 n2 k2] 53)).alloc (.cells #[.slice d1 m1 j1,.slice d2 m2 j2] 53)) w.heap.size [.slice a1 n1 k1,.slice a2 n2 k2]):=hid ((Cel.new w [.slice a1 n1 k1,.slice a2 n2 k2] 53).below (qW5 _) (Bl.alloc (Bl.refl _) _));have HY0:Hid (Cel ((w.alloc (.cells #[.slice a1 n1 k1,.slice a2 n2 k2] 53)).alloc (.cells #[.slice d1 m1 j1,.slice d2 m2 j2] 53)) (w.heap.size + 1) [.slice d1 m1 j1,.slice d2 m2 j2]):=hid (by have:=Cel.new (w.alloc (.cells #[.slice a1 n1 k1,.slice a2 n2 k2] 53)) [.slice d1 m1 j1,.slice d2 m2 j2] 53;simpa using this);clear e1 hr1 hr2 gr1 gr2 h h';go_enter Tryz.func33,Tryz.ntmps33;go_wp2_with fail;refine (uP a1 d1 n1 m1 k1 j1 ps qs _ HT1.out _ (HR1.out.below HB0.out) (GR1.out.below HB0.out)).mono ?_;rintro e w1 ⟨rfl,hb⟩;have HB1:=hid (Bl.step HB0.out hb);have HX1:=hid (HX0.out.below (qW5 _) hb);have HY1:=hid (HY0.out.below (qW5 _) hb);clear hb
 cases t1 with
 | false =>
   go_wp2_with fail;go_ret;exact ⟨rb (by first | rfl | (simp;done) | (simp_all;done)),HB1.out⟩
 | true =>
   have c0:=HX1.out.cell 0 _ rfl;have c1:=HX1.out.cell 1 _ rfl;have g0:=HY1.out.cell 0 _ rfl;have g1:=HY1.out.cell 1 _ rfl;go_wp2_with fail;refine (uP a2 d2 n2 m2 k2 j2 rs ts _ HT2.out w1 (HR2.out.below HB1.out) (GR2.out.below HB1.out)).mono ?_;rintro e w2 ⟨rfl,hb⟩;have HB2:=hid (Bl.step HB1.out hb);have HX2:=hid (HX1.out.below (qW5 _) hb);have HY2:=hid (HY1.out.below (qW5 _) hb);clear hb c0 c1 g0 g1;go_wp2_with fail;go_ret;exact ⟨rb (by first | rfl | (simp;done) | (simp_all;done)),HB2.out⟩
theorem qMx (x y:MEl) (cs ds:List Value) (w:World) (h:Rx w fun w=>ElR w cs x) (h':Rx w fun w=>ElR w ds y):Calls Tryz.prog 39 #[.agg cs.toArray,.agg ds.toArray] w fun e w'=>e=.returned (.bool (qHq x y)) /\ Below w.heap.size w w':=by
 obtain ⟨a1,n1,k1,rfl,hr1⟩:=h.now;obtain ⟨d1,m1,j1,rfl,gr1⟩:=h'.now;obtain ⟨o,rs⟩:=x;obtain ⟨p,ts⟩:=y;have e1:qHq ⟨o,rs⟩ ⟨p,ts⟩=((o == p) && (rs == ts)):=rfl;rw [e1];have HR1:=hid hr1;have GR1:=hid gr1
 obtain ⟨t1,ht1⟩:∃ t1,(o == p)=t1:=⟨_,rfl⟩
 rw [ht1]
 obtain ⟨t2,ht2⟩:∃ t2,(rs == ts)=t2:=⟨_,rfl⟩
 rw [ht2];have HT2:=hid ht2;clear ht2;have HB0:Hid (Below w.heap.size w ((w.alloc (.cells #[.int .i64 o,.slice a1 n1 k1] 67)).alloc (.cells #[.int .i64 p,.slice d1 m1 j1] 67))):=hid (Bl.alloc (Bl.alloc (Bl.refl w) _) _);have HX0:Hid (Cel ((w.alloc (.cells #[.int .i64 o,.slice a1 n1 k1] 67)).alloc (.cells #[.int .i64 p,.slice d1 m1 j1] 67)) w.heap.size [.int .i64 o,.slice a1 n1 k1]):=hid ((Cel.new w [.int .i64 o,.slice a1 n1 k1] 67).below (qW5 _) (Bl.alloc (Bl.refl _) _));have HY0:Hid (Cel ((w.alloc (.cells #[.int .i64 o,.slice a1 n1 k1] 67)).alloc (.cells #[.int .i64 p,.slice d1 m1 j1] 67)) (w.heap.size + 1) [.int .i64 p,.slice d1 m1 j1]):=hid (by have:=Cel.new (w.alloc (.cells #[.int .i64 o,.slice a1 n1 k1] 67)) [.int .i64 p,.slice d1 m1 j1] 67;simpa using this);clear e1 hr1 gr1 h h';go_enter Tryz.func39,Tryz.ntmps39
 cases t1 with
 | false =>
   go_wp2_with fail;go_ret;exact ⟨rb (by first | rfl | (simp;done) | (simp_all;done)),HB0.out⟩
 | true =>
   go_wp2_with fail;refine (uP a1 d1 n1 m1 k1 j1 rs ts _ HT2.out _ (HR1.out.below HB0.out) (GR1.out.below HB0.out)).mono ?_;rintro e w1 ⟨rfl,hb⟩;have HB1:=hid (Bl.step HB0.out hb);have HX1:=hid (HX0.out.below (qW5 _) hb);have HY1:=hid (HY0.out.below (qW5 _) hb);clear hb;go_wp2_with fail;go_ret;exact ⟨rb (by first | rfl | (simp;done) | (simp_all;done)),HB1.out⟩
theorem qMy (x y:MDa) (cs ds:List Value) (w:World) (h:Rx w fun w=>DaR w cs x) (h':Rx w fun w=>DaR w ds y):Calls Tryz.prog 43 #[.agg cs.toArray,.agg ds.toArray] w fun e w'=>e=.returned (.bool (qHr x y)) /\ Below w.heap.size w w':=by
 obtain ⟨a1,n1,k1,rfl,hr1⟩:=h.now;obtain ⟨d1,m1,j1,rfl,gr1⟩:=h'.now;obtain ⟨o,rs⟩:=x;obtain ⟨p,ts⟩:=y;have e1:qHr ⟨o,rs⟩ ⟨p,ts⟩=((o == p) && (rs == ts)):=rfl;rw [e1];have HR1:=hid hr1;have GR1:=hid gr1
 obtain ⟨t1,ht1⟩:∃ t1,(o == p)=t1:=⟨_,rfl⟩
 rw [ht1]
 obtain ⟨t2,ht2⟩:∃ t2,(rs == ts)=t2:=⟨_,rfl⟩
 rw [ht2];have HT2:=hid ht2;clear ht2;have HB0:Hid (Below w.heap.size w ((w.alloc (.cells #[.int .i64 o,.slice a1 n1 k1] 44)).alloc (.cells #[.int .i64 p,.slice d1 m1 j1] 44))):=hid (Bl.alloc (Bl.alloc (Bl.refl w) _) _);have HX0:Hid (Cel ((w.alloc (.cells #[.int .i64 o,.slice a1 n1 k1] 44)).alloc (.cells #[.int .i64 p,.slice d1 m1 j1] 44)) w.heap.size [.int .i64 o,.slice a1 n1 k1]):=hid ((Cel.new w [.int .i64 o,.slice a1 n1 k1] 44).below (qW5 _) (Bl.alloc (Bl.refl _) _));have HY0:Hid (Cel ((w.alloc (.cells #[.int .i64 o,.slice a1 n1 k1] 44)).alloc (.cells #[.int .i64 p,.slice d1 m1 j1] 44)) (w.heap.size + 1) [.int .i64 p,.slice d1 m1 j1]):=hid (by have:=Cel.new (w.alloc (.cells #[.int .i64 o,.slice a1 n1 k1] 44)) [.int .i64 p,.slice d1 m1 j1] 44;simpa using this);clear e1 hr1 gr1 h h';go_enter Tryz.func43,Tryz.ntmps43
 cases t1 with
 | false =>
   go_wp2_with fail;go_ret;exact ⟨rb (by first | rfl | (simp;done) | (simp_all;done)),HB0.out⟩
 | true =>
   go_wp2_with fail;refine (qA1 a1 n1 k1 rs d1 m1 j1 ts _ (HR1.out.below HB0.out) (GR1.out.below HB0.out)).mono ?_;rintro e w1 ⟨rfl,hb⟩;rw [HT2.out];have HB1:=hid (Bl.step HB0.out hb);have HX1:=hid (HX0.out.below (qW5 _) hb);have HY1:=hid (HY0.out.below (qW5 _) hb);clear hb;go_wp2_with fail;go_ret;exact ⟨rb (by first | rfl | (simp;done) | (simp_all;done)),HB1.out⟩
theorem qPw:∀ args w,(callFunc 100 args).run Tryz.prog w=.ok (.enter 100 args) w:=enters_of Tryz.func100 (by kernel_rfl) rfl
def qPx (I J:Ins):Bool:=eqI I.op I.a I.b I.l J.op J.a J.b J.l
theorem qKp (ao:Option Addr) (n cap:Nat) (xs:List Ins) (bo:Option Addr) (m bap:Nat) (ys:List Ins) (w:World) (h:Rx w fun w=>RdG 4 InR w ao n cap xs) (h':Rx w fun w=>RdG 4 InR w bo m bap ys) :
    Calls Tryz.prog 99 #[.slice ao n cap,.slice bo m bap,.func (.func 100) #[] #[]] w fun e w'=>e=.returned (.bool (eqG qPx xs ys)) /\ Below w.heap.size w w' :=
 qPr _ qPx ao n cap xs bo m bap ys w h h' qPw fun w cs x ds y hR hR'=>by
  obtain ⟨a1,n1,k1,rfl,hr1,_⟩:=hR.now;obtain ⟨d1,m1,j1,rfl,gr1,_⟩:=hR'.now;exact qV7 x.op x.a x.b a1 n1 k1 x.l y.op y.a y.b d1 m1 j1 y.l _ rfl w hr1 gr1
theorem qA2 {cs:List Value} {x:MCo} {w:World} (h:Rx w fun w=>CoR w cs x):∃ a1 n1 k1 a2 n2 k2,cs=[.slice a1 n1 k1,.slice a2 n2 k2] /\ Rd .i64 w a1 n1 k1 x.ls /\ Rx w fun w=>RdG 4 InR w a2 n2 k2 x.body:=by
 obtain ⟨a1,n1,k1,a2,n2,k2,rfl,hr1,_⟩:=h.now;refine ⟨a1,n1,k1,a2,n2,k2,rfl,hr1,fun w' h'=>?_⟩;obtain ⟨_,_,_,_,_,_,e,_,hr⟩:=h w' h';simp only [List.cons.injEq,Value.slice.injEq,and_true] at e;obtain ⟨_,rfl,rfl,rfl⟩:=e;exact hr
theorem qMz (x y:MCo) (cs ds:List Value) (w:World) (h:Rx w fun w=>CoR w cs x) (h':Rx w fun w=>CoR w ds y):Calls Tryz.prog 41 #[.agg cs.toArray,.agg ds.toArray] w fun e w'=>e=.returned (.bool (qGh x y)) /\ Below w.heap.size w w':=by
 obtain ⟨a1,n1,k1,a2,n2,k2,rfl,hr1,hr2⟩:=qA2 h;obtain ⟨d1,m1,j1,d2,m2,j2,rfl,gr1,gr2⟩:=qA2 h';obtain ⟨ps,rs⟩:=x;obtain ⟨qs,ts⟩:=y;have e1:qGh ⟨ps,rs⟩ ⟨qs,ts⟩=((ps == qs) && (eqG qPx rs ts)):=rfl;rw [e1];have HR1:=hid hr1;have HR2:=hid hr2;have GR1:=hid gr1;have GR2:=hid gr2
 obtain ⟨t1,ht1⟩:∃ t1,(ps == qs)=t1:=⟨_,rfl⟩
 rw [ht1];have HT1:=hid ht1;clear ht1
 obtain ⟨t2,ht2⟩:∃ t2,(eqG qPx rs ts)=t2:=⟨_,rfl⟩
 rw [ht2];have HT2:=hid ht2;clear ht2;have HB0:Hid (Below w.heap.size w ((w.alloc (.cells #[.slice a1 n1 k1,.slice a2 n2 k2] 49)).alloc (.cells #[.slice d1 m1 j1,.slice d2 m2 j2] 49))):=hid (Bl.alloc (Bl.alloc (Bl.refl w) _) _);have HX0:Hid (Cel ((w.alloc (.cells #[.slice a1 n1 k1,.slice a2 n2 k2] 49)).alloc (.cells #[.slice d1 m1 j1,.slice d2 m2 j2] 49)) w.heap.size [.slice a1 n1 k1,.slice a2 n2 k2]):=hid ((Cel.new w [.slice a1 n1 k1,.slice a2 n2 k2] 49).below (qW5 _) (Bl.alloc (Bl.refl _) _));have HY0:Hid (Cel ((w.alloc (.cells #[.slice a1 n1 k1,.slice a2 n2 k2] 49)).alloc (.cells #[.slice d1 m1 j1,.slice d2 m2 j2] 49)) (w.heap.size + 1) [.slice d1 m1 j1,.slice d2 m2 j2]):=hid (by have:=Cel.new (w.alloc (.cells #[.slice a1 n1 k1,.slice a2 n2 k2] 49)) [.slice d1 m1 j1,.slice d2 m2 j2] 49;simpa using this);clear e1 hr1 hr2 gr1 gr2 h h';go_enter Tryz.func41,Tryz.ntmps41;go_wp2_with fail;refine (uP a1 d1 n1 m1 k1 j1 ps qs _ HT1.out _ (HR1.out.below HB0.out) (GR1.out.below HB0.out)).mono ?_;rintro e w1 ⟨rfl,hb⟩;have HB1:=hid (Bl.step HB0.out hb);have HX1:=hid (HX0.out.below (qW5 _) hb);have HY1:=hid (HY0.out.below (qW5 _) hb);clear hb
 cases t1 with
 | false =>
   go_wp2_with fail;go_ret;exact ⟨rb (by first | rfl | (simp;done) | (simp_all;done)),HB1.out⟩
 | true =>
   have c0:=HX1.out.cell 0 _ rfl;have c1:=HX1.out.cell 1 _ rfl;have g0:=HY1.out.cell 0 _ rfl;have g1:=HY1.out.cell 1 _ rfl;go_wp2_with fail;refine (qKp a2 n2 k2 rs d2 m2 j2 ts w1 (HR2.out.below HB1.out) (GR2.out.below HB1.out)).mono ?_;rintro e w2 ⟨rfl,hb⟩;rw [HT2.out];have HB2:=hid (Bl.step HB1.out hb);have HX2:=hid (HX1.out.below (qW5 _) hb);have HY2:=hid (HY1.out.below (qW5 _) hb);clear hb c0 c1 g0 g1;go_wp2_with fail;go_ret;exact ⟨rb (by first | rfl | (simp;done) | (simp_all;done)),HB2.out⟩
open Go.RowKit
theorem qU4 (y1 z1:Bool) (y2 y3 z2 z3:Int) (w:World):(binOp .eql 26 (.agg #[.bool y1,.int .i64 y2,.int .i64 y3]) (.agg #[.bool z1,.int .i64 z2,.int .i64 z3])).run Tryz.prog w=.ok (.bool (qL9 ⟨y1,y2,y3⟩ ⟨z1,z2,z3⟩)) w:=by
 go_simp;unfold qL9;by_cases h1:y1=z1
 ·by_cases h2:y2=z2
  ·by_cases h3:y3=z3
   ·simp [h1,h2,h3]
   ·simp [h1,h2,h3]
  ·simp [h1,h2]
 ·simp [h1]
theorem qM0:∀ args w,(callFunc 33 args).run Tryz.prog w=.ok (.enter 33 args) w:=enters_of Tryz.func33 (by kernel_rfl) rfl
theorem qM1:∀ args w,(callFunc 39 args).run Tryz.prog w=.ok (.enter 39 args) w:=enters_of Tryz.func39 (by kernel_rfl) rfl
theorem qM2:∀ args w,(callFunc 41 args).run Tryz.prog w=.ok (.enter 41 args) w:=enters_of Tryz.func41 (by kernel_rfl) rfl
theorem qM3:∀ args w,(callFunc 43 args).run Tryz.prog w=.ok (.enter 43 args) w:=enters_of Tryz.func43 (by kernel_rfl) rfl
def qAr (M N:MMo):Bool:=eqG qHx M.types N.types && eqG qEx M.imports N.imports && (M.funcs == N.funcs) && qL9 M.table N.table && qL9 M.mem N.mem && eqG qEy M.globals N.globals && eqG qFw M.exports N.exports && eqG qHq M.elems N.elems && eqG qGh M.codes N.codes && eqG qHr M.datas N.datas
theorem qEz (V W:MoV) (M N:MMo) (w:World) (h:Rx w (MoR V M)) (h':Rx w (MoR W N)) :
    Calls Tryz.prog 13 #[.agg (V.cells M).toArray,.agg (W.cells N).toArray] w fun e w'=>e=.returned (.bool (qAr M N)) /\ Below w.heap.size w w':=by
 unfold qAr
 obtain ⟨t0,ht0⟩:∃ t0,eqG qHx M.types N.types=t0:=⟨_,rfl⟩
 obtain ⟨t1,ht1⟩:∃ t1,eqG qEx M.imports N.imports=t1:=⟨_,rfl⟩
 obtain ⟨t2,ht2⟩:∃ t2,(M.funcs == N.funcs)=t2:=⟨_,rfl⟩
 obtain ⟨t3,ht3⟩:∃ t3,qL9 M.table N.table=t3:=⟨_,rfl⟩
 obtain ⟨t4,ht4⟩:∃ t4,qL9 M.mem N.mem=t4:=⟨_,rfl⟩
 obtain ⟨t5,ht5⟩:∃ t5,eqG qEy M.globals N.globals=t5:=⟨_,rfl⟩
 obtain ⟨t6,ht6⟩:∃ t6,eqG qFw M.exports N.exports=t6:=⟨_,rfl⟩
 obtain ⟨t7,ht7⟩:∃ t7,eqG qHq M.elems N.elems=t7:=⟨_,rfl⟩
 obtain ⟨t8,ht8⟩:∃ t8,eqG qGh M.codes N.codes=t8:=⟨_,rfl⟩
 obtain ⟨t9,ht9⟩:∃ t9,eqG qHr M.datas N.datas=t9:=⟨_,rfl⟩
 have h0:=fun w1 (hb:Below w.heap.size w w1)=>qPn _ qHx _ _ _ _ _ _ _ _ w1 ((Rx.imp h fun _ h=>h.t).below hb) ((Rx.imp h' fun _ h=>h.t).below hb) qM0 (fun w cs x ds y hR hR'=>qMw x y cs ds w hR hR')
 simp only [ht0] at h0
 have h1:=fun w1 (hb:Below w.heap.size w w1)=>qPs _ _ _ _ _ _ _ _ w1 ((Rx.imp h fun _ h=>h.i).below hb) ((Rx.imp h' fun _ h=>h.i).below hb) 
 simp only [ht1] at h1
 have h2:=fun w1 (hb:Below w.heap.size w w1)=>uP _ _ _ _ _ _ _ _ t2 ht2 w1 (h.now.f.below hb) (h'.now.f.below hb)
 have h5:=fun w1 (hb:Below w.heap.size w w1)=>qPt _ _ _ _ _ _ _ _ w1 ((Rx.imp h fun _ h=>h.g).below hb) ((Rx.imp h' fun _ h=>h.g).below hb) 
 simp only [ht5] at h5
 have h6:=fun w1 (hb:Below w.heap.size w w1)=>qPu _ _ _ _ _ _ _ _ w1 ((Rx.imp h fun _ h=>h.e).below hb) ((Rx.imp h' fun _ h=>h.e).below hb) 
 simp only [ht6] at h6
 have h7:=fun w1 (hb:Below w.heap.size w w1)=>qPo _ qHq _ _ _ _ _ _ _ _ w1 ((Rx.imp h fun _ h=>h.l).below hb) ((Rx.imp h' fun _ h=>h.l).below hb) qM1 (fun w cs x ds y hR hR'=>qMx x y cs ds w hR hR')
 simp only [ht7] at h7
 have h8:=fun w1 (hb:Below w.heap.size w w1)=>qPp _ qGh _ _ _ _ _ _ _ _ w1 ((Rx.imp h fun _ h=>h.c).below hb) ((Rx.imp h' fun _ h=>h.c).below hb) qM2 (fun w cs x ds y hR hR'=>qMz x y cs ds w hR hR')
 simp only [ht8] at h8
 have h9:=fun w1 (hb:Below w.heap.size w w1)=>qPq _ qHr _ _ _ _ _ _ _ _ w1 ((Rx.imp h fun _ h=>h.d).below hb) ((Rx.imp h' fun _ h=>h.d).below hb) qM3 (fun w cs x ds y hR hR'=>qMy x y cs ds w hR hR')
 simp only [ht9] at h9
 rw [ht0,ht1,ht2,ht3,ht4,ht5,ht6,ht7,ht8,ht9]
 simp only [MoV.cells]
 obtain ⟨T,I,F,⟨th,tm,tx⟩,⟨mh,mm,mx⟩,G,E,L,C,D⟩:=M
 obtain ⟨T',I',F',⟨th',tm',tx'⟩,⟨mh',mm',mx'⟩,G',E',L',C',D'⟩:=N
 obtain ⟨⟨ot,nt,ct⟩,⟨oi,ni,ci⟩,⟨of,nf,cf⟩,⟨og,ng,cg⟩,⟨oe,ne,ce⟩,⟨ol,nl,cl⟩,⟨oc,nc,cc⟩,⟨od,nd,cd⟩⟩:=V
 obtain ⟨⟨pt,mt,dt⟩,⟨pi,mi,di⟩,⟨pf,mf,df⟩,⟨pg,mg,dg⟩,⟨pe,me,de⟩,⟨pl,ml,dl⟩,⟨pc,mc,dc⟩,⟨pd,md,dd⟩⟩:=W
 simp only at h0 h1 h2 h5 h6 h7 h8 h9 ht3 ht4 ⊢
 have hs3:=fun w1=>qU4 th th' tm tx tm' tx' w1
 have hs4:=fun w1=>qU4 mh mh' mm mx mm' mx' w1
 simp only [ht3] at hs3
 simp only [ht4] at hs4
 have H0:=hid h0
 have H1:=hid h1
 have H2:=hid h2
 have H5:=hid h5
 have H6:=hid h6
 have H7:=hid h7
 have H8:=hid h8
 have H9:=hid h9
 have HS3:=hid hs3
 have HS4:=hid hs4
 have HB:Hid (Below w.heap.size w ((w.alloc (.cells #[.slice ot nt ct,.slice oi ni ci,.slice of nf cf,.bool th,.int .i64 tm,.int .i64 tx,.bool mh,.int .i64 mm,.int .i64 mx,.slice og ng cg,.slice oe ne ce,.slice ol nl cl,.slice oc nc cc,.slice od nd cd] 33)).alloc (.cells #[.slice pt mt dt,.slice pi mi di,.slice pf mf df,.bool th',.int .i64 tm',.int .i64 tx',.bool mh',.int .i64 mm',.int .i64 mx',.slice pg mg dg,.slice pe me de,.slice pl ml dl,.slice pc mc dc,.slice pd md dd] 33))):=hid (Bl.alloc (Bl.alloc (Bl.refl w) _) _)
 have HX:Hid (Cel ((w.alloc (.cells #[.slice ot nt ct,.slice oi ni ci,.slice of nf cf,.bool th,.int .i64 tm,.int .i64 tx,.bool mh,.int .i64 mm,.int .i64 mx,.slice og ng cg,.slice oe ne ce,.slice ol nl cl,.slice oc nc cc,.slice od nd cd] 33)).alloc (.cells #[.slice pt mt dt,.slice pi mi di,.slice pf mf df,.bool th',.int .i64 tm',.int .i64 tx',.bool mh',.int .i64 mm',.int .i64 mx',.slice pg mg dg,.slice pe me de,.slice pl ml dl,.slice pc mc dc,.slice pd md dd] 33)) w.heap.size [.slice ot nt ct,.slice oi ni ci,.slice of nf cf,.bool th,.int .i64 tm,.int .i64 tx,.bool mh,.int .i64 mm,.int .i64 mx,.slice og ng cg,.slice oe ne ce,.slice ol nl cl,.slice oc nc cc,.slice od nd cd]):=hid ((Cel.new w [.slice ot nt ct,.slice oi ni ci,.slice of nf cf,.bool th,.int .i64 tm,.int .i64 tx,.bool mh,.int .i64 mm,.int .i64 mx,.slice og ng cg,.slice oe ne ce,.slice ol nl cl,.slice oc nc cc,.slice od nd cd] 33).below (qW5 _) (Bl.alloc (Bl.refl _) _))
 have HY:Hid (Cel ((w.alloc (.cells #[.slice ot nt ct,.slice oi ni ci,.slice of nf cf,.bool th,.int .i64 tm,.int .i64 tx,.bool mh,.int .i64 mm,.int .i64 mx,.slice og ng cg,.slice oe ne ce,.slice ol nl cl,.slice oc nc cc,.slice od nd cd] 33)).alloc (.cells #[.slice pt mt dt,.slice pi mi di,.slice pf mf df,.bool th',.int .i64 tm',.int .i64 tx',.bool mh',.int .i64 mm',.int .i64 mx',.slice pg mg dg,.slice pe me de,.slice pl ml dl,.slice pc mc dc,.slice pd md dd] 33)) (w.heap.size + 1) [.slice pt mt dt,.slice pi mi di,.slice pf mf df,.bool th',.int .i64 tm',.int .i64 tx',.bool mh',.int .i64 mm',.int .i64 mx',.slice pg mg dg,.slice pe me de,.slice pl ml dl,.slice pc mc dc,.slice pd md dd]):=hid (by have:=Cel.new (w.alloc (.cells #[.slice ot nt ct,.slice oi ni ci,.slice of nf cf,.bool th,.int .i64 tm,.int .i64 tx,.bool mh,.int .i64 mm,.int .i64 mx,.slice og ng cg,.slice oe ne ce,.slice ol nl cl,.slice oc nc cc,.slice od nd cd] 33)) [.slice pt mt dt,.slice pi mi di,.slice pf mf df,.bool th',.int .i64 tm',.int .i64 tx',.bool mh',.int .i64 mm',.int .i64 mx',.slice pg mg dg,.slice pe me de,.slice pl ml dl,.slice pc mc dc,.slice pd md dd] 33;simpa using this)
 clear h h' hs3 hs4 ht0 ht1 ht2 ht3 ht4 ht5 ht6 ht7 ht8 ht9 h0 h1 h2 h5 h6 h7 h8 h9
 go_enter Tryz.func13,Tryz.ntmps13
 go_wp2_with fail
 refine (H0.out _ HB.out).mono ?_
 rintro e w1 ⟨rfl,hb⟩
 replace HB:=hid (Bl.step HB.out hb)
 replace HX:=hid (HX.out.below (qW5 _) hb)
 replace HY:=hid (HY.out.below (qW5 _) hb)
 clear hb H0 
 cases t0 with
 | false =>
   go_wp2_with fail;go_ret;exact ⟨rfl,HB.out⟩
 | true =>
   have x1:=HX.out.cell 1 _ rfl;have y1:=HY.out.cell 1 _ rfl;go_wp2_with fail;refine (H1.out _ HB.out).mono ?_;rintro e w2 ⟨rfl,hb⟩;replace HB:=hid (Bl.step HB.out hb);replace HX:=hid (HX.out.below (qW5 _) hb);replace HY:=hid (HY.out.below (qW5 _) hb);clear hb H1 x1 y1
   cases t1 with
   | false =>
     go_wp2_with fail;go_ret;exact ⟨rfl,HB.out⟩
   | true =>
     have x2:=HX.out.cell 2 _ rfl;have y2:=HY.out.cell 2 _ rfl;go_wp2_with fail;refine (H2.out _ HB.out).mono ?_;rintro e w3 ⟨rfl,hb⟩;replace HB:=hid (Bl.step HB.out hb);replace HX:=hid (HX.out.below (qW5 _) hb);replace HY:=hid (HY.out.below (qW5 _) hb);clear hb H2 x2 y2
     cases t2 with
     | false =>
       go_wp2_with fail;go_ret;exact ⟨rfl,HB.out⟩
     | true =>
       have hs:=HS3.out;clear HS3;have x3:=HX.out.cell 3 _ rfl;have y3:=HY.out.cell 3 _ rfl;have x4:=HX.out.cell 4 _ rfl;have y4:=HY.out.cell 4 _ rfl;have x5:=HX.out.cell 5 _ rfl;have y5:=HY.out.cell 5 _ rfl
       cases t3 with
       | false =>
         go_wp2_with fail;go_ret;exact ⟨rfl,HB.out⟩
       | true =>
         have hs3:=hs;clear hs;have hs:=HS4.out;clear HS4;have x6:=HX.out.cell 6 _ rfl;have y6:=HY.out.cell 6 _ rfl;have x7:=HX.out.cell 7 _ rfl;have y7:=HY.out.cell 7 _ rfl;have x8:=HX.out.cell 8 _ rfl;have y8:=HY.out.cell 8 _ rfl
         cases t4 with
         | false =>
           go_wp2_with fail;go_ret;exact ⟨rfl,HB.out⟩
         | true =>
           have hs4:=hs;clear hs;have x9:=HX.out.cell 9 _ rfl;have y9:=HY.out.cell 9 _ rfl;go_wp2_with fail;refine (H5.out _ HB.out).mono ?_;rintro e w4 ⟨rfl,hb⟩;replace HB:=hid (Bl.step HB.out hb);replace HX:=hid (HX.out.below (qW5 _) hb);replace HY:=hid (HY.out.below (qW5 _) hb);clear hb H5 x3 x4 x5 y3 y4 y5 hs3 x6 x7 x8 y6 y7 y8 hs4 x9 y9
           cases t5 with
           | false =>
             go_wp2_with fail;go_ret;exact ⟨rfl,HB.out⟩
           | true =>
             have x10:=HX.out.cell 10 _ rfl;have y10:=HY.out.cell 10 _ rfl;go_wp2_with fail;refine (H6.out _ HB.out).mono ?_;rintro e w5 ⟨rfl,hb⟩;replace HB:=hid (Bl.step HB.out hb);replace HX:=hid (HX.out.below (qW5 _) hb);replace HY:=hid (HY.out.below (qW5 _) hb);clear hb H6 x10 y10
             cases t6 with
             | false =>
               go_wp2_with fail;go_ret;exact ⟨rfl,HB.out⟩
             | true =>
               have x11:=HX.out.cell 11 _ rfl;have y11:=HY.out.cell 11 _ rfl;go_wp2_with fail;refine (H7.out _ HB.out).mono ?_;rintro e w6 ⟨rfl,hb⟩;replace HB:=hid (Bl.step HB.out hb);replace HX:=hid (HX.out.below (qW5 _) hb);replace HY:=hid (HY.out.below (qW5 _) hb);clear hb H7 x11 y11
               cases t7 with
               | false =>
                 go_wp2_with fail;go_ret;exact ⟨rfl,HB.out⟩
               | true =>
                 have x12:=HX.out.cell 12 _ rfl;have y12:=HY.out.cell 12 _ rfl;go_wp2_with fail;refine (H8.out _ HB.out).mono ?_;rintro e w7 ⟨rfl,hb⟩;replace HB:=hid (Bl.step HB.out hb);replace HX:=hid (HX.out.below (qW5 _) hb);replace HY:=hid (HY.out.below (qW5 _) hb);clear hb H8 x12 y12
                 cases t8 with
                 | false =>
                   go_wp2_with fail;go_ret;exact ⟨rfl,HB.out⟩
                 | true =>
                   have x13:=HX.out.cell 13 _ rfl;have y13:=HY.out.cell 13 _ rfl;go_wp2_with fail;refine (H9.out _ HB.out).mono ?_;rintro e w8 ⟨rfl,hb⟩;replace HB:=hid (Bl.step HB.out hb);replace HX:=hid (HX.out.below (qW5 _) hb);replace HY:=hid (HY.out.below (qW5 _) hb);clear hb H9 x13 y13;go_wp2_with fail;go_ret;exact ⟨rb (by cases t9 <;> rfl),HB.out⟩
end Go.Proofs.YtbkofpljchkkaaaGreat
