/- Words: RefLo. -/
import Derived.Test.YtbkofpljchkkaaaGreatRefBy
set_option maxRecDepth 100000
set_option maxHeartbeats 4000000
namespace Go.Proofs.YtbkofpljchkkaaaGreat
open Go.RowKit
theorem qOe:∀ (l:List Int) (k:Int),l.getLast?=some k -> ∃ S n,zV l=S ++ [(n,k)]:=by
 intro l
 induction l with
 | nil=>intro k h;simp at h
 | cons a r ih =>
   intro k h
   cases r with
   | nil =>
     simp at h;subst h;exact ⟨[],1,rfl⟩
   | cons b q =>
     obtain ⟨S,n,hs⟩:=ih k (by simpa using h);have e:=qDg a (b :: q);rw [hs] at e;rw [e]
     cases S with
     | nil =>
       unfold qBb;simp only [List.nil_append];by_cases hk:a=k
       ·subst hk;exact ⟨[],n + 1,by simp⟩
       ·exact ⟨[(1,a)],n,by simp [hk]⟩
     | cons x S' =>
       unfold qBb;simp only [List.cons_append];by_cases hk:a=x.2
       ·exact ⟨(x.1 + 1,a) :: S',n,by simp [hk]⟩
       ·exact ⟨(1,a) :: x :: S',n,by simp [hk]⟩
theorem qB2 (xs:List Int) (k:Int) (h:xs=[] ∨ xs.getLast? ≠ some k):∀ m:Nat,zV (xs ++ List.replicate (m + 1) k)=zV xs ++ [((m:Int) + 1,k)]
 | 0=>by
   rw [show List.replicate (0 + 1) k=[k] from rfl,qBc];rcases h with rfl | h
   ·rfl
   ·cases hx:xs.getLast? with
    | none =>
      have:xs=[]:=by simpa using hx
      subst this;rfl
    | some y =>
      obtain ⟨S,n,hs⟩:=qOe xs y hx
      rw [hs,uR,if_neg (by
       simp only;intro e;apply h
       rw [hx,e])]
      simp
 | m + 1=>by
   have ih:=qB2 xs k h m;rw [List.replicate_succ',<- qXe,qBc,ih,uR,if_pos rfl];rw [show ((m + 1:Nat):Int)=(m:Int) + 1 by omega]
theorem qIs (l:List Int):(zV l).length <= l.length:=by
 induction l with
 | nil=>exact qW8 _
 | cons k r ih =>
   unfold zV;split
   ·next n k' q he =>
    rw [he] at ih;simp only [qXg] at ih
    split <;> (simp only [qXg];omega)
   ·next he=>simp only [qXg,qXq];omega
theorem qVj (rs:List (Int × Int)):(rs.flatMap ruE).length <= 11 * rs.length:=by
 have h:=qM ruE rs 11 (fun r _=>by
  have h:=qE 9 r.1;have e:(ruE r).length=(qZ 9 r.1).length + 1:=by simp [ruE,jG,kE]
  omega)
 omega
theorem qHi (ao:Option Addr) (n cap:Nat) (xs:List Int) (w:World) (h:Rd .i64 w ao n cap xs) (hn:n <= 1000) (hm:xs.all yG=true) :
    Calls Tryz.prog 127 #[.slice ao n cap] w fun e w'=>∃ v,e=.returned v /\ Own 5 .u8 w.heap.size w' v (qT ruE (zV xs)) /\ Below w.heap.size w w':=by
 have H:=hid h
 have HL:=hid h.len
 have HM:=hid hm
 clear h hm
 go_enter Tryz.func127,Tryz.ntmps127
 go_wp2_with fail
 go_loopw [3,4,5] (fun v c i wr=>∃ k:Nat,k <= n /\ i=.int .i64 k /\ c=.int .i64 (zV (xs.take k)).length /\ Own 5 .u8 w.heap.size wr v ((zV (xs.take k)).flatMap ruE) /\ Below w.heap.size w wr /\ Hid (∀ x,xs[k]?=some x -> xs.take k=[] ∨ (xs.take k).getLast? ≠ some x)) (fun _ _ i _=>n - (intOf i).toNat)
 case atStart=>exact ⟨0,qXf _,rfl,rfl,by simpa [zV] using Own.nil _ _ _ _,qXh _ _,fun x _=>.inl rfl⟩
 case round =>
  obtain ⟨i,hin,rfl,rfl,ho,hb,HX⟩:=hrel;have hrl:=qIs (xs.take i);have hfl:=qVj (zV (xs.take i));have htl:(xs.take i).length=i:=by rw [qXu,HL.out];omega
  rw [htl] at hrl
  obtain ⟨ys,hys⟩:∃ ys,ys=(zV (xs.take i)).flatMap ruE:=⟨_,rfl⟩
  obtain ⟨rc,hrc⟩:∃ rc,rc=(zV (xs.take i)).length:=⟨_,rfl⟩
  rw [<- hys] at ho hfl;rw [<- hrc] at hrl hfl ⊢;have HYS:=hid hys;have HRC:=hid hrc;have HO:=hid ho;have HB:=hid hb;have hsz:=hb.size;clear ho hb hys hrc htl;obtain ⟨yo,yc,rfl,hry⟩:=HO.out.rd
  obtain ⟨yl,hyl⟩:∃ yl,ys.length=yl:=⟨_,rfl⟩
  have HRY:=hid hry;rw [hyl] at HO HRY hfl ⊢;have HYL:=hid hyl;clear hry hyl;by_cases hk:i < n
  ·obtain ⟨wo,rfl⟩:∃ wo:World,wo=wr:=⟨_,rfl⟩
   obtain ⟨x,hx⟩:∃ x,xs[i]?=some x:=⟨xs[i]'(by rw [HL.out];omega),qW6 (by rw [HL.out];omega)⟩
   obtain ⟨b,off,rfl,hc⟩:=(H.out.below HB.out).at (by omega)
   have hbw:b < w.heap.size:=by
    obtain ⟨b',off',e',hc'⟩:=H.out.at (by omega)
    cases e'
    exact qXc w _ (hc' i hk)
   have hx0:=HX.out x hx;have HXI:=hid hx;have HX0:=hid hx0;have HC:=hid hc;clear hx hx0 HX hc;go_wp2_with fail;go_loopw [6] (fun v wr=>∃ k:Nat,i <= k /\ k <= n /\ v=.int .i64 k /\ Hid (xs.take k=xs.take i ++ List.replicate (k - i) x) /\ Below wo.heap.size wo wr) (fun v _=>n - (intOf v).toNat)
   case atStart=>exact ⟨i,qW8 _,hin,rfl,by simp [Hid],qXh _ _⟩
   case round =>
    obtain ⟨k,hik,hkn,rfl,HT,hb2⟩:=hrel;have HB2:=hid hb2;have hsz2:=hb2.size;have hcs:=fun j hj=>(World.cell?_of_block (a:=⟨b,off + j,none⟩) (hb2.block b (qXc _ _ (HC.out i hk)))).trans (HC.out j hj)
    have ci:=hcs i hk;rw [show xs.getD i 0=x by simp [List.getD,HXI.out]] at ci;clear hb2;by_cases hkn2:k < n
    ·obtain ⟨z,hz⟩:∃ z,xs[k]?=some z:=⟨xs[k]'(by rw [HL.out];omega),qW6 (by rw [HL.out];omega)⟩
     have ck:=hcs k hkn2;rw [show xs.getD k 0=z by simp [List.getD,hz]] at ck;have HZ:=hid hz;have hd:decide ((k:Int) < n)=true:=by simp;omega
     clear hz hcs;by_cases e:z=x
     ·subst e
      go_wp2_with fail;go_quiet (fail);go_wp2_with fail;go_roundw
      case rel =>
       refine ⟨k + 1,by omega,by omega,by go_num,?_,HB2.out.trans (qW _ _ _)⟩;show _=_;rw [qXy,HZ.out,HT.out,show k + 1 - i=(k - i) + 1 by omega,List.replicate_succ',qXe];rfl
      case measure=>simp [intOf];omega
     ·have ez:(z == x)=false:=by simp [e]
      have hki:i < k:=by
       rcases Nat.lt_or_ge i k with h | h
       ·exact h
       ·exfalso
        have e0:k=i:=by omega
        subst e0;have h1:=HZ.out;rw [HXI.out] at h1;exact e (Option.some.inj h1).symm
      have hxn:∀ y,xs[k]?=some y -> xs.take k=[] ∨ (xs.take k).getLast? ≠ some y:=by
       intro y hy;rw [HZ.out] at hy
       cases hy
       right;rw [HT.out,show k - i=(k - i - 1) + 1 by omega,List.replicate_succ',<- qXe,List.getLast?_concat];intro h;exact e (Option.some.inj h).symm
      have HXN:=hid hxn;clear hxn HZ;go_wp2_with fail;go_quiet (fail);go_wp2_with fail
      obtain ⟨M,hM⟩:∃ M:Int,(k:Int) - (i:Int)=M:=⟨_,rfl⟩
      have hrb:zV (xs.take k)=zV (xs.take i) ++ [(M,x)]:=by
       have h:=qB2 (xs.take i) x (HX0.out) (k - i - 1);rw [show k - i - 1 + 1=k - i by omega,<- HT.out] at h;rw [h,show ((k - i - 1:Nat):Int) + 1=M by omega]
      have HRB:=hid hrb;have hM0:0 <= M /\ M <= 1000:=by omega
      have hwr:IntKind.i64.wrap M=M:=IntWalk.i64_in _ (by omega);have hxm:yG x=true:=qXb.1 HM.out x (qXa HXI.out);have HXM:=hid hxm;have HO2:=hid (HO.out.below HB2.out (qW8 _));have HB3:=hid (HB.out.trans (HB2.out.mono hsz));have hul:=qE 9 M
      obtain ⟨us,hus⟩:∃ us,jG M=us:=⟨_,rfl⟩
      have hul:us.length <= 10:=by rw [<- hus];exact hul
      have hru:=xC M wr (by omega) (by omega);rw [hus] at hru;have HRU:=hid hru;have HUS:=hid hus
      obtain ⟨kb,hkb⟩:∃ kb,kB x=kb:=⟨_,rfl⟩
      have HKW:Hid ((Lit.int .u8 kb).wf=true):=hid (by rw [<- hkb];exact qQe x);have HKB:=hid hkb;have hsz3:=HB3.out.size;clear hrb hxm hus hkb hru HO HRY HC HT;have hb5:Below wr.heap.size wr (wr.drewN nq):=qW _ _ _;have ci5:(wr.drewN nq).cell? ⟨b,off + i,none⟩=some (.int .i64 x):=ci
      obtain ⟨w5,hw5⟩:∃ w5,wr.drewN nq=w5:=⟨_,rfl⟩
      rw [hw5] at hb5 ci5 ⊢;clear hw5 ci;have HO3:=hid (HO2.out.below hb5 (qW8 _));have HB4:=hid (HB3.out.trans (hb5.mono HB3.out.size));have hsz5:=HB4.out.size;clear hb5 HO2 HB3 HRU
      go_region_law (first
       | (refine jP rfl (.tmp 29) (.tmp 33) 37 rfl 5 .u8 w.heap.size 1 Tryz.underlying37 qG _ ys rfl HO4.out uo us.length uc us rfl HR.out (by rw [HYL.out];omega) (by rw [HYL.out];omega) hsz6 ?_;intro v7 w7 o7 b7 _;have ci7:=(b7.cell (p:=⟨b,off + i,none⟩) hbw).trans ci6;have HO7:=hid o7;have HB7:=hid (HB5.out.trans b7);have hsz7:=HB7.out.size;clear o7 b7 ci6)
       | (refine jP rfl (.tmp 34) (.tmp 40) 37 rfl 5 .u8 w.heap.size 1 Tryz.underlying37 qG _ (ys ++ us) rfl (HO7.out.alloc _) (some ⟨w7.heap.size,0,none⟩) 1 1 [kb] rfl (Rd.built _ _ _ _ HKW.out) (by rw [qW7,HYL.out];omega) (by rw [qW7,HYL.out];omega) (by simp;omega) ?_;intro v9 w9 o9 b9 _;have HO9:=hid o9;have HB9:=hid ((Below.alloc HB7.out hsz7 _).trans b9);clear o9 b9)
       | (go_simp;go_at_call 52;refine (xC M _ hM0.1 (by omega)).mono ?_;rintro e w6 ⟨v,rfl,hv,hb6x⟩;have hb6:Below w5.heap.size w5 w6:=(qXh _ w5).drew.trans hb6x;clear hb6x;rw [HUS.out] at hv;have ci6:=(hb6.cell (p:=⟨b,off + i,none⟩) (show b < w5.heap.size by omega)).trans ci5;have HO4:=hid (HO3.out.below hb6 (qW8 _));have HB5:=hid (HB4.out.trans (hb6.mono hsz5));obtain ⟨uo,uc,rfl,hru2⟩:=hv.rd;have HR:=hid hru2;have hsz6:=HB5.out.size;clear hv hb6 hru2 ci5)
       | (go_simp;go_at_call 54;refine (uQ x _ HXM.out).mono ?_;rintro e w8 ⟨rfl,rfl⟩;rw [HKB.out]))
      all_goals
       have hfm:(zV (xs.take k)).flatMap ruE=ys ++ us ++ [kb]:=by
        rw [HRB.out,List.flatMap_append,<- HYS.out,List.flatMap_cons,List.flatMap_nil,List.append_nil,ruE,HUS.out,kE,HKB.out,qXe]
       have hln:(zV (xs.take k)).length=rc + 1:=by rw [HRB.out,qW7,<- HRC.out];rfl
       have HFM:=hid hfm
       have HLN:=hid hln
       have hrc63:(rc:Int) + 1 <= 2000:=by omega
       clear hfm hln
       go_wp2_with fail
       go_roundw
       case rel=>exact ⟨k,hkn,rfl,by rw [HLN.out];go_num,by rw [HFM.out];exact HO9.out,HB9.out,HXN.out⟩
       case measure=>simp [intOf];omega
    ·have hki:i < k:=by omega
     have hkn3:k=n:=by omega
     subst hkn3;have hd:decide ((k:Int) < k)=false:=by simp
     have hxn:∀ y,xs[k]?=some y -> xs.take k=[] ∨ (xs.take k).getLast? ≠ some y:=by
      intro y hy;rw [List.getElem?_eq_none (by rw [HL.out];omega)] at hy
      cases hy
     have HXN:=hid hxn;clear hxn hcs;go_wp2_with fail;go_quiet (fail);go_wp2_with fail
     obtain ⟨M,hM⟩:∃ M:Int,(k:Int) - (i:Int)=M:=⟨_,rfl⟩
     have hrb:zV (xs.take k)=zV (xs.take i) ++ [(M,x)]:=by
      have h:=qB2 (xs.take i) x (HX0.out) (k - i - 1);rw [show k - i - 1 + 1=k - i by omega,<- HT.out] at h;rw [h,show ((k - i - 1:Nat):Int) + 1=M by omega]
     have HRB:=hid hrb;have hM0:0 <= M /\ M <= 1000:=by omega
     have hwr:IntKind.i64.wrap M=M:=IntWalk.i64_in _ (by omega);have hxm:yG x=true:=qXb.1 HM.out x (qXa HXI.out);have HXM:=hid hxm;have HO2:=hid (HO.out.below HB2.out (qW8 _));have HB3:=hid (HB.out.trans (HB2.out.mono hsz));have hul:=qE 9 M
     obtain ⟨us,hus⟩:∃ us,jG M=us:=⟨_,rfl⟩
     have hul:us.length <= 10:=by rw [<- hus];exact hul
     have hru:=xC M wr (by omega) (by omega);rw [hus] at hru;have HRU:=hid hru;have HUS:=hid hus
     obtain ⟨kb,hkb⟩:∃ kb,kB x=kb:=⟨_,rfl⟩
     have HKW:Hid ((Lit.int .u8 kb).wf=true):=hid (by rw [<- hkb];exact qQe x);have HKB:=hid hkb;have hsz3:=HB3.out.size;clear hrb hxm hus hkb hru HO HRY HC HT;have hb5:Below wr.heap.size wr (wr.drewN nq):=qW _ _ _;have ci5:(wr.drewN nq).cell? ⟨b,off + i,none⟩=some (.int .i64 x):=ci
     obtain ⟨w5,hw5⟩:∃ w5,wr.drewN nq=w5:=⟨_,rfl⟩
     rw [hw5] at hb5 ci5 ⊢;clear hw5 ci;have HO3:=hid (HO2.out.below hb5 (qW8 _));have HB4:=hid (HB3.out.trans (hb5.mono HB3.out.size));have hsz5:=HB4.out.size;clear hb5 HO2 HB3 HRU
     go_region_law (first
      | (refine jP rfl (.tmp 29) (.tmp 33) 37 rfl 5 .u8 w.heap.size 1 Tryz.underlying37 qG _ ys rfl HO4.out uo us.length uc us rfl HR.out (by rw [HYL.out];omega) (by rw [HYL.out];omega) hsz6 ?_;intro v7 w7 o7 b7 _;have ci7:=(b7.cell (p:=⟨b,off + i,none⟩) hbw).trans ci6;have HO7:=hid o7;have HB7:=hid (HB5.out.trans b7);have hsz7:=HB7.out.size;clear o7 b7 ci6)
      | (refine jP rfl (.tmp 34) (.tmp 40) 37 rfl 5 .u8 w.heap.size 1 Tryz.underlying37 qG _ (ys ++ us) rfl (HO7.out.alloc _) (some ⟨w7.heap.size,0,none⟩) 1 1 [kb] rfl (Rd.built _ _ _ _ HKW.out) (by rw [qW7,HYL.out];omega) (by rw [qW7,HYL.out];omega) (by simp;omega) ?_;intro v9 w9 o9 b9 _;have HO9:=hid o9;have HB9:=hid ((Below.alloc HB7.out hsz7 _).trans b9);clear o9 b9)
      | (go_simp;go_at_call 52;refine (xC M _ hM0.1 (by omega)).mono ?_;rintro e w6 ⟨v,rfl,hv,hb6x⟩;have hb6:Below w5.heap.size w5 w6:=(qXh _ w5).drew.trans hb6x;clear hb6x;rw [HUS.out] at hv;have ci6:=(hb6.cell (p:=⟨b,off + i,none⟩) (show b < w5.heap.size by omega)).trans ci5;have HO4:=hid (HO3.out.below hb6 (qW8 _));have HB5:=hid (HB4.out.trans (hb6.mono hsz5));obtain ⟨uo,uc,rfl,hru2⟩:=hv.rd;have HR:=hid hru2;have hsz6:=HB5.out.size;clear hv hb6 hru2 ci5)
      | (go_simp;go_at_call 54;refine (uQ x _ HXM.out).mono ?_;rintro e w8 ⟨rfl,rfl⟩;rw [HKB.out]))
     all_goals
      have hfm:(zV (xs.take k)).flatMap ruE=ys ++ us ++ [kb]:=by
       rw [HRB.out,List.flatMap_append,<- HYS.out,List.flatMap_cons,List.flatMap_nil,List.append_nil,ruE,HUS.out,kE,HKB.out,qXe]
      have hln:(zV (xs.take k)).length=rc + 1:=by rw [HRB.out,qW7,<- HRC.out];rfl
      have HFM:=hid hfm
      have HLN:=hid hln
      have hrc63:(rc:Int) + 1 <= 2000:=by omega
      clear hfm hln
      go_wp2_with fail
      go_roundw
      case rel=>exact ⟨k,hkn,rfl,by rw [HLN.out];go_num,by rw [HFM.out];exact HO9.out,HB9.out,HXN.out⟩
      case measure=>simp [intOf];omega
  ·have hkn':i=n:=by omega
   subst hkn';rw [qW9 (by rw [HL.out];exact qW8 _)] at HYS HRC;go_wp2_with fail;refine (xK rc yo yl yc ys _ (by omega) (by omega) HRY.out (by omega)).mono ?_;rintro e w2 ⟨v,rfl,hv,hb⟩;have HV:=hid (hv.lift hsz);have HB2:=hid (HB.out.trans (hb.mono hsz));clear hv hb;go_wp2_with fail;go_ret;refine ⟨_,rfl,?_,HB2.out⟩;have:=HV.out;rw [HYS.out] at this;unfold qT;rw [<- HRC.out];exact this
end Go.Proofs.YtbkofpljchkkaaaGreat
