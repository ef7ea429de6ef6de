/- Words: CodeBody. -/
import Derived.Test.YtbkofpljchkkaaaGreatKD
set_option maxHeartbeats 2000000
namespace Go.Proofs.YtbkofpljchkkaaaGreat
open Go.RowKit
theorem qOu (N:Nat) (N':Int) (hN':N'=N) (hN:N <= 1000) (C:Addr -> Prop) (ao:Option Addr) (n cap:Nat) (is:List Ins) (w:World) (hr:RdP w C ao n cap is) :
    Calls Tryz.prog 20 #[.slice ao n cap,.int .i64 N'] w fun e w'=>∃ v,e=.returned v /\ qB7 w.heap.size w' v ((is.take N).map qOr) /\ Below w.heap.size w w':=by
 subst hN'
 have hn63:n <= 9223372036854775807:=by have h1:=hr.le;have h2:=hr.max;unfold maxLen at h2;omega
 obtain ⟨i0,hi0,hz0,hz1,hz2⟩:=info_parts qH2
 have HI:=hid (And.intro hi0 (And.intro hz0 (And.intro hz1 hz2)))
 have Hr:=hid hr
 have Hx:=hid hr.len
 clear hr hi0 hz0 hz1 hz2
 go_enter Tryz.func20,Tryz.ntmps20
 go_wp2_with fail
 go_loopw [5,6] (fun v i wr=>∃ k:Nat,k <= n /\ k <= N /\ i=.int .i64 k /\ qB7 w.heap.size wr v ((is.take k).map qOr) /\ Below w.heap.size w wr) (fun _ i _=>N - (intOf i).toNat)
 case atStart=>exact ⟨0,qXf _,qXf _,rfl,by simpa using qB7.nil _ _,qXh _ _⟩
 case round =>
  obtain ⟨k,hkn,hkN,rfl,hown,hb⟩:=hrel;have hsz:=hb.size;have HO:=hid hown;have HB:=hid hb;clear hown hb;by_cases hk:k < n /\ k < N
  ·obtain ⟨hk,hk3⟩:=hk
   obtain ⟨b,off,lo,ln,lc,rfl,c0,c1,c2,c3,hrl,_⟩:=(Hr.out.below HB.out).cell k hk;have hs:=qFc (is:=is) (k:=k) (by rw [Hx.out];exact hk)
   obtain ⟨⟨op,p,q,l⟩,hI⟩:∃ I,I=is.getD k default:=⟨_,rfl⟩
   rw [<- hI] at c0 c1 c2 hrl hs;simp only at c0 c1 c2 hrl;have Hs:=hid hs;have Hrl:=hid hrl;clear hI hs hrl;go_wp2_with fail;refine (qVa op p q lo ln lc l _ Hrl.out).mono ?_;rintro e w1 ⟨lo2,ln2,lc2,rfl,hown,hb⟩;have HO1:=hid (HO.out.below hb (qW8 _));have HB1:=hid (Bl.step HB.out hb);have HC1:=hid hown;have hsz1:=hb.size;clear hb hown c0 c1 c2 c3;obtain ⟨ps,hps,hrow,hin⟩:=HO1.out.below (Bl.alloc (Bl.refl w1) (.cells #[.int .i64 op,.int .i64 p,.int .i64 q,.slice lo2 ln2 lc2] 51)) (qW8 _);have hpl:ps.length=k:=by have:=congrArg List.length hps;simp at this;have:=Hx.out;omega
   have HPS:=hid hps;have HROW:=hid hrow;have HIN:=hid hin;have HPL:=hid hpl;have hps30:ps.length <= 1000:=by omega
   clear hps hrow hin hpl
   obtain ⟨bc2,hrl2⟩:∃ c,Rd .i64 w1 lo2 ln2 lc2 (l.take 55) /\ c=lc2:=by
    obtain ⟨ao',cap',hv,hr'⟩:=HC1.out.rd
    cases hv
    exact ⟨_,hr',rfl⟩
   have HRL2:=hid hrl2.1;clear hrl2
   have hfar:∀ ad,lo2=some ad -> wr.heap.size <= ad.block /\ ad.block < w1.heap.size:=by
    intro ad ha;exact HC1.out.lt ad.block (by rw [ha];rfl)
   have hold:∀ b,u5.ownBlock=some b -> w.heap.size <= b /\ b < wr.heap.size:=HO.out.lt;obtain ⟨i0',hi0,hz0,hz1,hz2⟩:=info_parts qH2
   go_wp2_with (at_builtin;apply jF)
   refine hid ?_;refine wpList_append_lies _ rfl (.tmp 18) (.tmp 24) 47 rfl w.heap.size 51 i0' _ 4 48 Tryz.underlying47 hi0 hz0 hz1 hz2 rfl (by decide) u5 ps.length _ rfl HROW.out ⟨w1.heap.size,0,none⟩ 1 1 [.int .i64 op,.int .i64 p,.int .i64 q,.slice lo2 ln2 lc2] rfl rfl (World.news_of_block (heap_alloc_new w1 _)) (by simp [Value.oneCell']) (by decide) (by unfold maxLen;omega) (by omega) (by simp;omega) (w1.heap.size + 1) (by simp) ?_;intro g cap2 w2 o2 g2 hg2 _;have HO2:=hid (qB7.step HPS.out HIN.out ⟨op,p,q,lo2,ln2,lc2,l.take 55⟩ (HRL2.out.below (Bl.alloc (Bl.refl _) _)) (fun ad ha=>⟨by have:=(hfar ad ha).2;simp;omega,fun e=>by have:=(hold _ e).2;have:=(hfar ad ha).1;omega,by have:=(hfar ad ha).1;omega⟩) o2 g2 hg2 (by simp));have HB2:=hid (xB HB1.out (Bl.alloc (Bl.refl w1) _) g2 (fun b hb=>(hold b hb).1) (by omega));clear o2 g2 hg2;go_wp2_with fail;go_roundw
   case rel =>
    refine ⟨k + 1,by omega,by omega,by go_num,?_,HB2.out⟩;rw [Hs.out,List.map_append];exact HO2.out
   case measure=>simp [intOf];omega
  ·have htk:is.take N=is.take k:=by
      rcases Nat.lt_or_ge k N with h3 | h3
      ·have:¬ k < n:=fun h=>hk ⟨h,h3⟩
       rw [qW9 (by rw [Hx.out];omega),qW9 (by rw [Hx.out];omega)]
      ·rw [show k=N by omega]
   rcases Nat.lt_or_ge k n with h3 | h3
   ·have hk3:¬ k < N:=fun h=>hk ⟨h3,h⟩
    go_wp2_with fail;exact bodyPost_ret (v:=u5) (by simp [results,Tryz.results20,go_sem]) rfl ⟨_,rfl,by rw [htk];exact HO.out,HB.out⟩
   ·go_wp2_with fail
    exact bodyPost_ret (v:=u5) (by simp [results,Tryz.results20,go_sem]) rfl ⟨_,rfl,by rw [htk];exact HO.out,HB.out⟩
end Go.Proofs.YtbkofpljchkkaaaGreat
