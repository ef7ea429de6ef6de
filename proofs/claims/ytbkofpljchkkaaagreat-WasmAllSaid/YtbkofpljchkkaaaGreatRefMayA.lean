/- Words: RefMayA. -/
import Derived.Test.YtbkofpljchkkaaaGreatWA
import Derived.Test.YtbkofpljchkkaaaGreatCodeRefMatch
set_option maxHeartbeats 1000000
namespace Go.Proofs.YtbkofpljchkkaaaGreat
open Go.RowKit
theorem qAp (n:Int) (w:World):Calls Tryz.prog 24 #[.int .i64 n] w fun e w'=>e=.returned (.bool (jQ n)) /\ w=w':=by
 unfold jQ
 cases h1:decide (0 <= n)
 all_goals
  cases h2:decide (n <= 1000)
  all_goals
   go_enter Tryz.func24,Tryz.ntmps24
   go_wp2_with fail
   go_ret
   exact ⟨by first | rfl | (simp;done),rfl⟩
theorem qDn (n:Int) (w:World):Calls Tryz.prog 58 #[.int .i64 n] w fun e w'=>e=.returned (.bool (j6 n)) /\ w=w':=by
 have e1:j6 n=(decide (-2147483648 <= n) && decide (n < 2147483648)):=by
  unfold j6;congr 1;exact decide_eq_decide.2 (by omega)
 rw [e1]
 cases h1:decide (-2147483648 <= n)
 all_goals
  cases h2:decide (n < 2147483648)
  all_goals
   go_enter Tryz.func58,Tryz.ntmps58
   go_wp2_with fail
   go_ret
   exact ⟨by first | rfl | (simp;done),rfl⟩
theorem qBi (ao:Option Addr) (n cap:Nat) (xs:List Int) (m:Int) (w:World) (h:Rd .i64 w ao n cap xs) :
    Calls Tryz.prog 26 #[.slice ao n cap,.int .i64 m] w fun e w'=>e=.returned (.bool (xs.all jQ && decide ((n:Int) <= m))) /\ w=w':=by
 have h63:n <= 9223372036854775807:=by have h1:=h.le;have h2:=h.max;unfold maxLen at h2;omega
 have H:=hid h
 have HL:=hid h.len
 obtain ⟨r,hr⟩:∃ r,(xs.all jQ && decide ((n:Int) <= m))=r:=⟨_,rfl⟩
 rw [hr]
 have HR:=hid hr
 clear h hr
 go_enter Tryz.func26,Tryz.ntmps26
 go_wp2_with fail
 go_loop [5] (fun i=>∃ k:Nat,k <= n /\ i=.int .i64 k /\ Hid ((xs.take k).all jQ=true)) (fun i=>n - (intOf i).toNat)
 case atStart=>exact ⟨0,qXf _,rfl,by simp [Hid]⟩
 case round =>
  obtain ⟨k,hkn,rfl,HA⟩:=hrel;by_cases hk:k < n
  ·obtain ⟨x,hx⟩:∃ x,xs[k]?=some x:=⟨xs[k]'(by rw [HL.out];omega),qW6 (by rw [HL.out];omega)⟩
   obtain ⟨b,off,rfl,hc⟩:=H.out.at (by omega)
   have c0:=hc k hk;rw [show xs.getD k 0=x by simp [List.getD,hx]] at c0;have hcut:=hid (qX jQ xs k x hx HA.out);clear hc hx;go_wp2_with fail;refine (qAp x _).mono ?_;rintro e w2 ⟨rfl,rfl⟩
   obtain ⟨px,hpx⟩:∃ px,jQ x=px:=⟨_,rfl⟩
   rw [hpx];have HPX:=hid hpx;clear hpx c0
   cases px with
   | true =>
     have HA2:=hid (hcut.out.2 HPX.out);clear hcut;go_wp2_with fail;go_round
     case rel=>exact ⟨k + 1,by omega,by go_num,HA2.out⟩
     case measure=>simp [intOf];omega
   | false =>
     have HA2:=hid (hcut.out.1 HPX.out);clear hcut;go_wp2_with fail;go_ret;exact ⟨rb (by rw [<- HR.out,HA2.out];rfl),rfl⟩
  ·have hkn':k=n:=by omega
   subst hkn';rw [qW9 (by rw [HL.out];exact qW8 _)] at HA;have e2:=HR.out;rw [HA.out,Bool.true_and] at e2;have HR2:=hid e2;clear e2
   cases hd:decide ((k:Int) <= m)
   all_goals
    rw [hd] at HR2
    go_wp2_with fail
    go_ret
    exact ⟨rb (by rw [<- HR2.out]),rfl⟩
theorem yP (ao:Option Addr) (n cap:Nat) (xs:List Int) (m:Int) (w:World) (h:Rd .i64 w ao n cap xs) :
    Calls Tryz.prog 22 #[.slice ao n cap,.int .i64 m] w fun e w'=>e=.returned (.bool (xs.all yG && decide ((n:Int) <= m))) /\ w=w':=by
 have h63:n <= 9223372036854775807:=by have h1:=h.le;have h2:=h.max;unfold maxLen at h2;omega
 have H:=hid h
 have HL:=hid h.len
 obtain ⟨r,hr⟩:∃ r,(xs.all yG && decide ((n:Int) <= m))=r:=⟨_,rfl⟩
 rw [hr]
 have HR:=hid hr
 clear h hr
 go_enter Tryz.func22,Tryz.ntmps22
 go_wp2_with fail
 go_loop [5] (fun i=>∃ k:Nat,k <= n /\ i=.int .i64 k /\ Hid ((xs.take k).all yG=true)) (fun i=>n - (intOf i).toNat)
 case atStart=>exact ⟨0,qXf _,rfl,by simp [Hid]⟩
 case round =>
  obtain ⟨k,hkn,rfl,HA⟩:=hrel;by_cases hk:k < n
  ·obtain ⟨x,hx⟩:∃ x,xs[k]?=some x:=⟨xs[k]'(by rw [HL.out];omega),qW6 (by rw [HL.out];omega)⟩
   obtain ⟨b,off,rfl,hc⟩:=H.out.at (by omega)
   have c0:=hc k hk;rw [show xs.getD k 0=x by simp [List.getD,hx]] at c0;have hcut:=hid (qX yG xs k x hx HA.out);clear hc hx;by_cases h1:x=1
   ·have HA2:=hid (hcut.out.2 (by rw [h1];rfl))
    subst h1;clear hcut;go_wp2_with fail;go_round
    case rel=>exact ⟨k + 1,by omega,by go_num,HA2.out⟩
    case measure=>simp [intOf];omega
   ·have n1:(x != 1)=true:=by simp [h1]
    by_cases h2:x=2
    ·have HA2:=hid (hcut.out.2 (by rw [h2];rfl))
     subst h2;clear hcut;go_wp2_with fail;go_round
     case rel=>exact ⟨k + 1,by omega,by go_num,HA2.out⟩
     case measure=>simp [intOf];omega
    ·have n2:(x != 2)=true:=by simp [h2]
     have HA2:=hid (hcut.out.1 (by simp [yG,h1,h2]));clear hcut;go_wp2_with fail;go_ret;exact ⟨rb (by rw [<- HR.out,HA2.out];rfl),rfl⟩
  ·have hkn':k=n:=by omega
   subst hkn';rw [qW9 (by rw [HL.out];exact qW8 _)] at HA;have e2:=HR.out;rw [HA.out,Bool.true_and] at e2;have HR2:=hid e2;clear e2
   cases hd:decide ((k:Int) <= m)
   all_goals
    rw [hd] at HR2
    go_wp2_with fail
    go_ret
    exact ⟨rb (by rw [<- HR2.out]),rfl⟩
theorem uI (h:Bool) (x y a b:Int) (w:World):Calls Tryz.prog 27 #[.agg #[.bool h,.int .i64 x,.int .i64 y],.int .i64 a,.int .i64 b] w fun e w'=>e=.returned (.bool (zS ⟨h,x,y⟩ a b)) /\ Below w.heap.size w w':=by
 cases h
 ·go_enter Tryz.func27,Tryz.ntmps27
  go_wp2
  all_goals (go_ret;exact ⟨by (simp_all [zS]),Bl.alloc (Bl.refl w) _⟩)
 ·go_enter Tryz.func27,Tryz.ntmps27
  go_wp2
  all_goals (go_ret;exact ⟨by (simp_all [zS]) <;> omega,Bl.alloc (Bl.refl w) _⟩)
theorem qB3 (s:ByteArray) (w:World) (hs:s.size <= 1000000):Calls Tryz.prog 23 #[.string s] w fun e w'=>e=.returned (.bool (zF s)) /\ w=w':=by
 have HS:=hid hs
 obtain ⟨r,hr⟩:∃ r,zF s=r:=⟨_,rfl⟩
 rw [hr];have HR:=hid hr
 obtain ⟨n,hn⟩:∃ n,s.size=n:=⟨_,rfl⟩
 have HN:=hid hn;have HL:Hid ((nb s).length=n):=hid (by rw [qA9,hn]);clear hr;go_enter Tryz.func23,Tryz.ntmps23;go_wp2_with fail;go_loop [3] (fun i=>∃ k:Nat,k <= n /\ i=.int .i64 k /\ Hid (((nb s).take k).all qBt=true)) (fun i=>n - (intOf i).toNat)
 case atStart=>exact ⟨0,qXf _,rfl,by simp [Hid]⟩
 case round =>
  obtain ⟨k,hkn,rfl,HA⟩:=hrel;by_cases hk:k < n
  ·obtain ⟨x,hx⟩:∃ x,(nb s)[k]?=some x:=⟨(nb s)[k]'(by rw [HL.out];omega),qW6 (by rw [HL.out];omega)⟩
   have hcut:=hid (qX qBt (nb s) k x hx HA.out)
   have hsx:∀ (h:k < s.size),((s[k]'h).toNat:Int)=x:=by
    intro h;unfold nb at hx;rw [List.getElem?_map,Array.getElem?_toList,Array.getElem?_eq_getElem (by exact h)] at hx;have hx2:=Option.some.inj hx;exact hx2
   have HSX:=hid hsx;clear hx hsx;go_wp2_with fail
   ·have h1:32 <= ((s[k]'(by omega)).toNat:Int):=by assumption
    have h2:((s[k]'(by omega)).toNat:Int) < 32 ∨ 126 < ((s[k]'(by omega)).toNat:Int):=by assumption
    rw [HSX.out] at h1 h2;have hm:qBt x=false:=by unfold qBt;rw [decide_eq_false (p:=x <= 126) (by omega)];simp
    have hall:=hcut.out.1 hm;go_ret;exact ⟨rb (by rw [<- HR.out];unfold zF;rw [hall];simp),rfl⟩
   ·have h1:32 <= ((s[k]'(by omega)).toNat:Int) /\ ((s[k]'(by omega)).toNat:Int) <= 126:=by assumption
    rw [HSX.out] at h1;have hm:qBt x=true:=by unfold qBt;rw [decide_eq_true (by omega),decide_eq_true (by omega)];rfl
    have HA2:=hid (hcut.out.2 hm);clear hcut h1 hm;go_round
    case rel=>exact ⟨k + 1,by omega,by go_num,HA2.out⟩
    case measure=>simp [intOf];omega
   ·have h1:((s[k]'(by omega)).toNat:Int) < 32:=by assumption
    rw [HSX.out] at h1;have hm:qBt x=false:=by unfold qBt;rw [decide_eq_false (by omega)];rfl
    have hall:=hcut.out.1 hm;go_ret;exact ⟨rb (by rw [<- HR.out];unfold zF;rw [hall];simp),rfl⟩
  ·have hkn':k=n:=by omega
   subst hkn';rw [qW9 (by rw [HL.out];exact qW8 _)] at HA;go_wp2_with fail
   all_goals
    go_ret
    refine ⟨rb ?_,rfl⟩
    rw [<- HR.out];unfold zF;rw [HA.out,HN.out,Bool.and_true]
    first | (rw [decide_eq_true (p:=1 <= k) (by omega),Bool.true_and];exact decide_eq_decide.2 (by omega)) | (rw [decide_eq_false (p:=1 <= k) (by omega)];rfl)
end Go.Proofs.YtbkofpljchkkaaaGreat
