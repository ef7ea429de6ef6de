/- Words: RefEqB. -/
import Derived.Deep.RegionLaw
import Derived.Test.YtbkofpljchkkaaaGreatWE
set_option maxRecDepth 100000
set_option maxHeartbeats 2000000
namespace Go.Proofs.YtbkofpljchkkaaaGreat
open Go.RowKit
theorem qDd (x y:MLi) (w:World) :
    Calls Tryz.prog 45 #[.agg #[.bool x.has,.int .i64 x.mn,.int .i64 x.mx],.agg #[.bool y.has,.int .i64 y.mn,.int .i64 y.mx]] w fun e w'=>e=.returned (.bool (qL9 x y)) /\ Below w.heap.size w w':=by
 obtain ⟨xh,xm,xx⟩:=x
 obtain ⟨yh,ym,yx⟩:=y
 have e1:qL9 ⟨xh,xm,xx⟩ ⟨yh,ym,yx⟩=((xh == yh) && ((xm == ym) && (xx == yx))):=rfl
 rw [e1]
 have HB:Hid (Below w.heap.size w ((w.alloc (.cells #[.bool xh,.int .i64 xm,.int .i64 xx] 26)).alloc (.cells #[.bool yh,.int .i64 ym,.int .i64 yx] 26))):=hid (Bl.alloc (Bl.alloc (Bl.refl w) _) _)
 clear e1
 simp only
 cases h1:xh == yh
 all_goals (cases h2:xm == ym)
 all_goals (cases h3:xx == yx)
 all_goals
  go_enter Tryz.func45,Tryz.ntmps45
  go_wp2_with fail
  go_ret
  exact ⟨rb (by first | rfl | (simp;done) | (simp_all;done)),HB.out⟩
theorem qD9 (ao:Option Addr) (n cap:Nat) (xs:List Ins) (bo:Option Addr) (m bap:Nat) (ys:List Ins) (w:World) (h:Rx w fun w=>RdG 4 InR w ao n cap xs) (h':Rx w fun w=>RdG 4 InR w bo m bap ys) :
    Calls Tryz.prog 101 #[.slice ao n cap,.slice bo m bap] w fun e w'=>e=.returned (.bool (eqG qPx xs ys)) /\ Below w.heap.size w w':=by
 have hl:=h.now.len
 have hl':=h'.now.len
 obtain ⟨h63,_⟩:=h.now.cap63
 obtain ⟨g63,_⟩:=h'.now.cap63
 by_cases hnm:n=m
 ·subst hnm
  rw [jC (by rw [hl,hl'])];have H:=hid h;have H':=hid h';have Hl:=hid hl;have Hl':=hid hl';clear h h';go_enter Tryz.func101,Tryz.ntmps101;go_wp2_with fail;go_loopw [5] (fun i wr=>∃ k:Nat,k <= n /\ i=.int .i64 k /\ Hid (((xs.zip ys).take k).all (fun q=>qPx q.1 q.2)=true) /\ Below w.heap.size w wr) (fun i _=>n - (intOf i).toNat)
  case atStart=>exact ⟨0,qXf _,rfl,by simp [Hid],qXh _ _⟩
  case round =>
   obtain ⟨k,hkn,rfl,HA,hb⟩:=hrel;have hsz:=hb.size;have HB:=hid hb;clear hb;by_cases hk:k < n
   ·obtain ⟨x,hx⟩:∃ x,xs[k]?=some x:=⟨xs[k]'(by omega),qW6 (by omega)⟩
    obtain ⟨z,hz⟩:∃ y,ys[k]?=some y:=⟨ys[k]'(by omega),qW6 (by omega)⟩
    have hzp:(xs.zip ys)[k]?=some (x,z):=by rw [List.getElem?_zip_eq_some];exact ⟨hx,hz⟩
    obtain ⟨b,off,cs,rfl,hcl,hR,hc⟩:=RdG.elem (H.out.below HB.out) hx;obtain ⟨op,p,q,l⟩:=x;obtain ⟨lo,ln,lc,rfl,hr1,_⟩:=hR.now;obtain ⟨b',off',cs',rfl,hcl',hR',hc'⟩:=RdG.elem (H'.out.below HB.out) hz;obtain ⟨op',p',q',l'⟩:=z;obtain ⟨lo',ln',lc',rfl,gr1,_⟩:=hR'.now;have c0:=hc 0 _ rfl;rw [qXd] at c0;have c1:=hc 1 _ rfl;have c2:=hc 2 _ rfl;have c3:=hc 3 _ rfl;have d0:=hc' 0 _ rfl;rw [qXd] at d0;have d1:=hc' 1 _ rfl;have d2:=hc' 2 _ rfl;have d3:=hc' 3 _ rfl;simp only at c0 c1 c2 d0 d1 d2 hr1 gr1;have hlb:=qXc _ _ c0;have hlb':=qXc _ _ d0;have HL:=hid hr1;have HL':=hid gr1;have hcut:=hid (qX (fun q:Ins × Ins=>qPx q.1 q.2) (xs.zip ys) k _ hzp HA.out)
    obtain ⟨px,hpx⟩:∃ px,eqI op p q l op' p' q' l'=px:=⟨_,rfl⟩
    have HPX:=hid hpx;have k0:(k:Int) < n:=by omega
    simp only at hlb hlb';clear hc hR hx hcl hr1 hl hc' hR' hz hcl' gr1 hl' hzp hpx;go_wp2_with fail;refine qK (by kernel_rfl) (by kernel_rfl) ?_;have hbc:=fun x=>@Bw.cell wr x
    repeat (go_big_quiet_step (first
     | (go_at_call 156;exact Calls.bw (qKu op p q lo ln lc l op' p' q' lo' ln' lc' l' px HPX.out _ (HL.out.below (Bw.h _)) (HL'.out.below (Bw.h _))))))
    refine wpQuiet_nil ?_;rintro _ ⟨x,rfl⟩;have HB2:=hid (HB.out.trans (x.h.mono HB.out.size));clear hbc c0 c1 c2 c3 d0 d1 d2 d3 hlb hlb' HL HL';generalize x.w=w5 at HB2 ⊢
    cases px with
    | true =>
      have HA2:=hid (hcut.out.2 HPX.out);clear hcut HPX HA;go_wp2_with fail;go_roundw
      case rel=>exact ⟨k + 1,by omega,by go_num,HA2.out,HB2.out⟩
      case measure=>simp [intOf];omega
    | false =>
      have HA2:=hid (hcut.out.1 HPX.out);clear hcut HPX HA;go_wp2_with fail;exact bodyPost_ret (v:=.bool false) (by simp [results,Tryz.results101,go_sem]) rfl ⟨by rw [HA2.out],HB2.out⟩
   ·have e0:k=n:=by omega
    subst e0;have ht:(xs.zip ys).take k=xs.zip ys:=qW9 (by rw [List.length_zip,Hl.out,Hl'.out];simp);have ha:=HA.out;rw [ht] at ha;have HA2:=hid ha;clear ht ha hl hl';go_wp2_with fail;exact bodyPost_ret (v:=.bool true) (by simp [results,Tryz.results101,go_sem]) rfl ⟨by rw [HA2.out],HB.out⟩
 ·rw [zH (by rw [hl,hl'];exact hnm)]
  have e':((n:Int) != (m:Int))=true:=by simp;omega
  clear h h' hl hl';go_enter Tryz.func101,Tryz.ntmps101;go_wp2_with fail;go_ret;exact ⟨rfl,qXh _ _⟩
end Go.Proofs.YtbkofpljchkkaaaGreat
