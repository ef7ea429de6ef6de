/- Words: RefBy. -/
import Derived.Deep.RegionLaw
import Derived.Test.YtbkofpljchkkaaaGreatWA
set_option maxHeartbeats 1000000
namespace Go.Proofs.YtbkofpljchkkaaaGreat
open Go.RowKit
theorem xC (n:Int) (w:World) (h0:0 <= n) (h1:n <= 9223372036854775807):Calls Tryz.prog 52 #[.int .i64 n] w fun e w'=>∃ v,e=.returned v /\ Own 5 .u8 w.heap.size w' v (jG n) /\ Below w.heap.size w w':=by
 go_enter Tryz.func52,Tryz.ntmps52;go_wp2_with fail;refine (yL n _ h0 (by omega)).mono ?_;rintro e w' ⟨v,rfl,hv,hb⟩;go_wp2_with fail;go_ret;exact ⟨_,rfl,hv,hb⟩
theorem xK (n:Int) (ao:Option Addr) (m cap:Nat) (xs:List Int) (w:World) (h0:0 <= n) (h1:n <= 9223372036854775807) (h:Rd .u8 w ao m cap xs) (hm:m <= 1000000000000) :
    Calls Tryz.prog 123 #[.int .i64 n,.slice ao m cap] w fun e w'=>∃ v,e=.returned v /\ Own 5 .u8 w.heap.size w' v (jG n ++ xs) /\ Below w.heap.size w w':=by
 have H:=hid h
 have hl:=j9 n
 clear h
 go_enter Tryz.func123,Tryz.ntmps123
 go_wp2_with fail
 refine (xC n _ h0 h1).mono ?_
 rintro e w1 ⟨v,rfl,hv,hb⟩
 obtain ⟨ys,hys⟩:∃ ys,jG n=ys:=⟨_,rfl⟩
 rw [hys] at hv hl
 have HYS:=hid hys
 clear hys
 have HR:=hid (H.out.below hb)
 have HV:=hid hv
 have HB:=hid hb
 have hsz:=hb.size
 clear hv hb
 go_wp2_with (at_builtin;refine qA rfl (.tmp 6) (.tmp 7) 37 rfl 5 .u8 w.heap.size 1 Tryz.underlying37 qG _ ys rfl HV.out ao m cap xs rfl HR.out (by omega) (by omega) hsz ?_;intro v' w2 h3 h4 _)
 go_ret
 exact ⟨_,rfl,by rw [HYS.out];exact h3,HB.out.trans h4⟩
theorem qBs (s:ByteArray) (w:World) (hs:s.size <= 1000):Calls Tryz.prog 51 #[.string s] w fun e w'=>∃ v,e=.returned v /\ Own 5 .u8 w.heap.size w' v (nmE s) /\ Below w.heap.size w w':=by
 obtain ⟨cap,w1,hconv,hr,hb⟩:=qBu s w (by omega);have HRR:=hid hr;have HB:=hid hb;clear hr hb;go_enter Tryz.func51,Tryz.ntmps51;go_wp2_with fail;refine (xK s.size _ _ _ _ w1 (by omega) (by omega) HRR.out (by omega)).mono ?_;rintro e w2 ⟨v,rfl,hv,hb⟩;have HV:=hid (hv.lift HB.out.size);have HB2:=hid (Bl.step HB.out hb);clear hv hb hconv;go_wp2_with fail;go_ret;refine ⟨_,rfl,?_,HB2.out⟩;unfold nmE szE;rw [qA9];exact HV.out
theorem uQ (k:Int) (w:World) (h:yG k=true):Calls Tryz.prog 54 #[.int .i64 k] w fun e w'=>e=.returned (.int .u8 (kB k)) /\ w=w':=by
 simp [yG] at h;rcases h with rfl | rfl
 all_goals
  go_enter Tryz.func54,Tryz.ntmps54
  go_wp2_with fail
  go_ret
  exact ⟨rfl,rfl⟩
theorem qQe (k:Int):(Lit.int .u8 (kB k)).wf=true:=by unfold kB;split <;> decide
theorem qDf (ao:Option Addr) (n cap:Nat) (xs:List Int) (w:World) (h:Rd .i64 w ao n cap xs) (hn:n <= 1000) (hm:xs.all yG=true) :
    Calls Tryz.prog 49 #[.slice ao n cap] w fun e w'=>∃ v,e=.returned v /\ Own 5 .u8 w.heap.size w' v (qT kE xs) /\ Below w.heap.size w w':=by
 have H:=hid h
 have HL:=hid h.len
 have HM:=hid hm
 clear h hm
 go_enter Tryz.func49,Tryz.ntmps49
 go_wp2_with fail
 go_loopw [3,4] (fun v i wr=>∃ k:Nat,k <= n /\ i=.int .i64 k /\ Own 5 .u8 w.heap.size wr v ((xs.take k).flatMap kE) /\ Below w.heap.size w wr) (fun _ i _=>n - (intOf i).toNat)
 case atStart=>exact ⟨0,qXf _,rfl,by simpa using Own.nil _ _ _ _,qXh _ _⟩
 case round =>
  obtain ⟨k,hkn,rfl,ho,hb⟩:=hrel;have HO:=hid ho;have HB:=hid hb;have hsz:=hb.size;clear ho hb
  have hel:((xs.take k).flatMap kE).length=k:=by
   have e:∀ l:List Int,(l.flatMap kE).length=l.length:=fun l=>by
    induction l with
    | nil=>rfl
    | cons a r ih=>rw [List.flatMap_cons,qW7,ih];simp [kE];omega
   rw [e,qXu,HL.out];omega
  obtain ⟨ys,hys⟩:∃ ys,ys=(xs.take k).flatMap kE:=⟨_,rfl⟩
  rw [<- hys] at HO hel;have HYS:=hid hys;clear hys;obtain ⟨yo,yc,rfl,hry⟩:=HO.out.rd;have HRY:=hid hry;clear hry;rw [hel] at HO HRY ⊢;by_cases hk:k < n
  ·obtain ⟨x,hx⟩:∃ x,xs[k]?=some x:=⟨xs[k]'(by rw [HL.out];omega),qW6 (by rw [HL.out];omega)⟩
   have hxm:yG x=true:=qXb.1 HM.out x (qXa hx);obtain ⟨b,off,rfl,hc⟩:=(H.out.below HB.out).at (by omega)
   have c0:=hc k hk;rw [show xs.getD k 0=x by simp [List.getD,hx]] at c0;have HX:=hid (jI kE xs k x hx);have HXM:=hid hxm;clear hc hx hxm;go_wp2_with fail;refine (uQ x _ HXM.out).mono ?_;rintro e w2 ⟨rfl,rfl⟩
   obtain ⟨kb,hkb⟩:∃ kb,kB x=kb:=⟨_,rfl⟩
   rw [hkb];have HKW:Hid ((Lit.int .u8 kb).wf=true):=hid (by rw [<- hkb];exact qQe x);have HKB:=hid hkb;clear hkb c0
   go_wp2_with (at_builtin;refine qA rfl (.tmp 11) (.tmp 17) 37 rfl 5 .u8 w.heap.size 1 Tryz.underlying37 qG _ ys rfl (HO.out.alloc _) (some ⟨wr.heap.size,0,none⟩) 1 1 [kb] rfl (Rd.built _ _ _ _ HKW.out) (by omega) (by omega) (by simp;omega) ?_;intro v3 w3 o3 b3 _;have HO3:=hid o3;have HB3:=hid b3;clear o3 b3)
   go_roundw
   case rel =>
    refine ⟨k + 1,by omega,by go_num,?_,(Below.alloc HB.out hsz _).trans HB3.out⟩;rw [HX.out,<- HYS.out,kE,HKB.out];exact HO3.out
   case measure=>simp [intOf];omega
  ·have hkn':k=n:=by omega
   subst hkn';rw [qW9 (by rw [HL.out];exact qW8 _)] at HYS;go_wp2_with fail;refine (xK k yo k yc ys _ (by omega) (by omega) HRY.out (by omega)).mono ?_;rintro e w2 ⟨v,rfl,hv,hb⟩;have HV:=hid (hv.lift hsz);have HB2:=hid (HB.out.trans (hb.mono hsz));clear hv hb;go_wp2_with fail;go_ret;refine ⟨_,rfl,?_,HB2.out⟩;have:=HV.out;rw [HYS.out] at this;unfold qT;rw [HL.out];exact this
theorem qFg (ao:Option Addr) (n cap:Nat) (xs:List Int) (w:World) (h:Rd .i64 w ao n cap xs) (hn:n <= 1000) (hm:∀ x ∈ xs,0 <= x) :
    Calls Tryz.prog 126 #[.slice ao n cap] w fun e w'=>∃ v,e=.returned v /\ Own 5 .u8 w.heap.size w' v (qT jG xs) /\ Below w.heap.size w w':=by
 have H:=hid h
 have HL:=hid h.len
 have HM:=hid hm
 clear h hm
 go_enter Tryz.func126,Tryz.ntmps126
 go_wp2_with fail
 go_loopw [3,4] (fun v i wr=>∃ k:Nat,k <= n /\ i=.int .i64 k /\ Own 5 .u8 w.heap.size wr v ((xs.take k).flatMap jG) /\ Below w.heap.size w wr) (fun _ i _=>n - (intOf i).toNat)
 case atStart=>exact ⟨0,qXf _,rfl,by simpa using Own.nil _ _ _ _,qXh _ _⟩
 case round =>
  obtain ⟨k,hkn,rfl,ho,hb⟩:=hrel;have HO:=hid ho;have HB:=hid hb;have hsz:=hb.size;clear ho hb
  have hel:((xs.take k).flatMap jG).length <= 100000:=by
   have h1:=qM jG (xs.take k) 10 (fun x _=>qE 9 x);have h2:(xs.take k).length <= 1000:=by rw [qXu,HL.out];omega
   omega
  obtain ⟨ys,hys⟩:∃ ys,ys=(xs.take k).flatMap jG:=⟨_,rfl⟩
  rw [<- hys] at HO hel;have HYS:=hid hys;clear hys;obtain ⟨yo,yc,rfl,hry⟩:=HO.out.rd;have HRY:=hid hry;clear hry
  obtain ⟨yl,hyl⟩:∃ yl,ys.length=yl:=⟨_,rfl⟩
  rw [hyl] at HO HRY hel ⊢;have HYL:=hid hyl;clear hyl;by_cases hk:k < n
  ·obtain ⟨x,hx⟩:∃ x,xs[k]?=some x:=⟨xs[k]'(by rw [HL.out];omega),qW6 (by rw [HL.out];omega)⟩
   have hxm:0 <= x:=HM.out x (qXa hx);have hxw:=bounds_i64 (H.out.wf x (qXa hx));obtain ⟨b,off,rfl,hc⟩:=(H.out.below HB.out).at (by omega)
   have c0:=hc k hk;rw [show xs.getD k 0=x by simp [List.getD,hx]] at c0;have HX:=hid (jI jG xs k x hx);clear hc hx;go_wp2_with fail;refine (xC x _ hxm hxw.2).mono ?_;rintro e w2 ⟨v,rfl,hv,hb⟩;have hl2:=qE 9 x
   obtain ⟨zs,hzs⟩:∃ zs,jG x=zs:=⟨_,rfl⟩
   have hl3:zs.length <= 10:=by rw [<- hzs];exact hl2
   rw [hzs] at hv;have HZS:=hid hzs;obtain ⟨zo,zc,rfl,hrz⟩:=hv.rd;have HRZ:=hid hrz;have HO2:=hid (HO.out.below hb (qW8 _));have HB2:=hid (HB.out.trans (hb.mono hsz));have hsz2:=HB2.out.size;clear hv hb hzs hrz hl2 c0
   go_wp2_with (at_builtin;refine qA rfl (.tmp 11) (.tmp 16) 37 rfl 5 .u8 w.heap.size 1 Tryz.underlying37 qG _ ys rfl HO2.out zo _ zc zs rfl HRZ.out (by rw [HYL.out];omega) (by rw [HYL.out];omega) hsz2 ?_;intro v3 w3 o3 b3 _;have HO3:=hid o3;have HB3:=hid b3;clear o3 b3)
   go_roundw
   case rel =>
    refine ⟨k + 1,by omega,by go_num,?_,HB2.out.trans HB3.out⟩;rw [HX.out,<- HYS.out,HZS.out];exact HO3.out
   case measure=>simp [intOf];omega
  ·have hkn':k=n:=by omega
   subst hkn';rw [qW9 (by rw [HL.out];exact qW8 _)] at HYS;go_wp2_with fail;refine (xK k yo yl yc ys _ (by omega) (by omega) HRY.out (by omega)).mono ?_;rintro e w2 ⟨v,rfl,hv,hb⟩;have HV:=hid (hv.lift hsz);have HB2:=hid (HB.out.trans (hb.mono hsz));clear hv hb;go_wp2_with fail;go_ret;refine ⟨_,rfl,?_,HB2.out⟩;have:=HV.out;rw [HYS.out] at this;unfold qT;rw [HL.out];exact this
theorem jO (id:Int) (hid0:0 <= id /\ id <= 255) (n:Nat) (ao:Option Addr) (m cap:Nat) (xs:List Int) (w:World) (hn:n <= 1000) (h:Rd .u8 w ao m cap xs) (hm:m <= 10000000000) :
    Calls Tryz.prog 50 #[.int .i64 id,.int .i64 n,.slice ao m cap] w fun e w'=>∃ v,e=.returned v /\ Own 5 .u8 w.heap.size w' v (if n=0 then [] else id :: szE (jG n ++ xs)) /\ Below w.heap.size w w':=by
 have H:=hid h
 have HXL:=hid h.len
 clear h
 by_cases h0:n=0
 ·subst h0
  rw [if_pos rfl];go_enter Tryz.func50,Tryz.ntmps50;go_wp2_with fail;go_ret;exact ⟨_,rfl,Own.nil _ _ _ _,qXh _ _⟩
 ·rw [if_neg h0]
  have h0':((n:Int) == 0)=false:=by simp;omega
  have hwo:IntKind.u8.wrap id=id:=by rw [IntKind.wrap_u8];omega
  have hnl:=j9 n
  obtain ⟨ns,hns⟩:∃ ns,jG n=ns:=⟨_,rfl⟩
  go_enter Tryz.func50,Tryz.ntmps50;go_wp2_with fail;refine (xK n ao m cap xs w (by omega) (by omega) H.out (by omega)).mono ?_;rintro e w1 ⟨v,rfl,hv,hb⟩;rw [hns] at hv hnl;obtain ⟨vo,vc,rfl,hrv⟩:=hv.rd
  obtain ⟨bs,hbs⟩:∃ bs,ns ++ xs=bs:=⟨_,rfl⟩
  have hbl:bs.length <= 11000000000:=by rw [<- hbs,qW7,HXL.out];omega
  rw [hbs] at hrv ⊢
  obtain ⟨bl,hbl2⟩:∃ bl,bs.length=bl:=⟨_,rfl⟩
  have hnl2:=j9 bl;rw [hbl2] at hrv hbl ⊢;have HRV:=hid hrv;have HBS:=hid hbs;have HBL2:=hid hbl2;have HNS:=hid hns;have HB:=hid hb;have hsz:=hb.size;clear hv hrv hb hbs hbl2 hns hnl;go_wp2_with fail
  try rw [hwo]
  have hob:Own 5 .u8 w.heap.size (w1.alloc (.cells #[.int .u8 id] 5)) (.slice (some ⟨w1.heap.size,0,none⟩) 1 1) [id]:=by
   have:=jK w1 .u8 5 [id] (by unfold maxLen;simp) (fun z hz=>by simp at hz;subst hz;exact WalkArith.wf_u8 hid0);exact this.lift hsz
  refine (xK bl vo bl vc bs _ (by omega) (by omega) (HRV.out.below (Bl.alloc (Bl.refl w1) _)) (by omega)).mono ?_;rintro e w2 ⟨v,rfl,hv,hb⟩
  obtain ⟨ms,hms⟩:∃ ms,jG bl=ms:=⟨_,rfl⟩
  rw [hms] at hv hnl2;obtain ⟨uo,uc,rfl,hru⟩:=hv.rd;have hul:(ms ++ bs).length <= 12000000000:=by rw [qW7,HBL2.out];omega
  obtain ⟨us,hus⟩:∃ us,ms ++ bs=us:=⟨_,rfl⟩
  rw [hus] at hru hul ⊢;have HRU:=hid hru;have HO:=hid (hob.below hb (qW8 _));have HB2:=hid ((Below.alloc HB.out hsz (.cells #[.int .u8 id] 5)).trans (hb.mono (by simp;omega)));have hsz2:=HB2.out.size;have HMS:=hid hms;have HUS:=hid hus;clear hob hv hb hru hms hus hnl2
  go_wp2_with (at_builtin;refine qA rfl (.tmp 15) (.tmp 19) 37 rfl 5 .u8 w.heap.size 1 Tryz.underlying37 qG _ [id] rfl HO.out uo us.length uc us rfl HRU.out (by simp;omega) (by simp;omega) hsz2 ?_;intro v' w3 h3 h4 _)
  go_ret;refine ⟨_,rfl,?_,HB2.out.trans h4⟩
  have e:id :: szE (jG n ++ xs)=[id] ++ us:=by
   rw [HNS.out,HBS.out];unfold szE;rw [HBL2.out];show id :: (jG bl ++ bs)=_;rw [HMS.out,HUS.out];rfl
  rw [e];exact h3
theorem yO (k n:Int) (w:World) (h:uX k n=true) (hn:-9223372036854775808 <= n /\ n <= 9223372036854775807):Calls Tryz.prog 55 #[.agg #[.int .i64 k,.int .i64 n]] w fun e w'=>∃ v,e=.returned v /\ Own 5 .u8 w.heap.size w' v (qBk k n) /\ Below w.heap.size w w':=by
 have hm:=qH7 k n h;have hcl:=yC k n;unfold qBk at hcl ⊢
 obtain ⟨o,ho⟩:∃ o:Int,(if k=2 then 66 else 65)=o:=⟨_,rfl⟩
 rw [ho] at hm hcl ⊢;have hput:=qGl o n 0 none 0 0 [] (w.alloc (.cells #[.int .i64 k,.int .i64 n] 56)) hm hn (Rd.empty _ _)
 obtain ⟨bs,hbs⟩:∃ bs,bs=uW o n 0 []:=⟨_,rfl⟩
 rw [<- hbs] at hput hcl ⊢;have hbl:bs.length <= 100000000:=by simp at hcl;omega
 have HP:=hid hput;clear hput hm h hbs hcl;by_cases h2:k=2
 ·subst h2
  rw [if_pos rfl] at ho;subst ho;go_enter Tryz.func55,Tryz.ntmps55;go_wp2_with fail;refine HP.out.mono ?_;rintro e w1 ⟨v,rfl,hv,hb⟩;have HV:=hid (hv.lift (Bl.alloc (Bl.refl w) _).size);have HB:=hid (Bl.step (Bl.alloc (Bl.refl w) _) hb);clear hv hb HP
  go_wp2_with (at_builtin;refine qA rfl (.tmp 11) (.tmp 12) 37 rfl 5 .u8 w.heap.size 1 Tryz.underlying37 qG _ bs rfl (HV.out.alloc _) (some ⟨w1.heap.size,0,none⟩) 1 1 [11] rfl (Rd.built _ _ _ _ (by decide)) (by omega) (by omega) (Bl.alloc HB.out _).size ?_;intro v2 w2 h3 h4 _)
  go_ret;exact ⟨_,rfl,h3,(Bl.alloc HB.out _).trans h4⟩
 ·rw [if_neg h2] at ho
  subst ho;have h2':(k == 2)=false:=by simp [h2]
  go_enter Tryz.func55,Tryz.ntmps55;go_wp2_with fail;refine HP.out.mono ?_;rintro e w1 ⟨v,rfl,hv,hb⟩;have HV:=hid (hv.lift (Bl.alloc (Bl.refl w) _).size);have HB:=hid (Bl.step (Bl.alloc (Bl.refl w) _) hb);clear hv hb HP
  go_wp2_with (at_builtin;refine qA rfl (.tmp 11) (.tmp 12) 37 rfl 5 .u8 w.heap.size 1 Tryz.underlying37 qG _ bs rfl (HV.out.alloc _) (some ⟨w1.heap.size,0,none⟩) 1 1 [11] rfl (Rd.built _ _ _ _ (by decide)) (by omega) (by omega) (Bl.alloc HB.out _).size ?_;intro v2 w2 h3 h4 _)
  go_ret;exact ⟨_,rfl,h3,(Bl.alloc HB.out _).trans h4⟩
theorem jP {P:Program} {w:World} {ops:Array Oper} {o:Oper} {a:Act} {K:Act -> World -> Prop} {Q:Exit -> Act -> World -> Prop} {X:Prop} (hgd:o.guard=none) (s x:Operand) (t:TypeId)
    (ho:o.op=.call { callee:=.builtin .append,args:=#[s,x],argTypes:=#[t,t] })
    (E:TypeId) (k:IntKind) (base:Nat) (bytes:Nat) (ht:P.underlying t=some (.slice E)) (hi:(P.info? E).map (fun i=>(i.zero,i.size,i.bytes))=some (some (.int k 0),1,bytes))
    (v:Value) (xs:List Int) (hs:a.eval s=v) (hown:Own E k base w v xs)
    (ao:Option Addr) (n cap:Nat) (ys:List Int) (hx:a.eval x=.slice ao n cap) (hr:Rd k w ao n cap ys)
    (h63:xs.length + n <= 4611686018427387904) (hbytes:(xs.length + n) * bytes <= 140737488355328) (hbase:base <= w.heap.size)
    (h:∀ v' w',Own E k base w' v' (xs ++ ys) -> Below base w w' -> (∀ b,v.ownBlock ≠ some b -> b < w.heap.size -> w'.heap[b]?=w.heap[b]?) -> K (a.put o.dst v') w') :
    if Region.wanted o (yielded ops a.tmps)=true then Oper.wp P o a w K Q else X:=by
 have hw:Region.wanted o (yielded ops a.tmps)=true:=by simp [Region.wanted,hgd]
 rw [if_pos hw]
 obtain ⟨i,hi0,hz,hsz,hby⟩:=info_parts hi
 cases ao with
 | none =>
   have hc:=hr.nil rfl;have hn:n=0:=by have:=hr.le;omega
   have hy:ys=[]:=List.eq_nil_of_length_eq_zero (by rw [hr.len];exact hn);subst hc hn hy;have hrun:=run_append_owned_none (P:=P) (w:=w) base t o.type E i 1 ht hi0 v xs.length _ hown.row;unfold Oper.wp;simp [execOp,ho,resolve,invoke,builtin,hs,hx,hrun,Result.andThen];exact h v w (by simpa using hown) (qXh _ _) (fun _ _ _=>rfl)
 | some ad =>
   refine wp_append_own w s x t ho base E i (.int k 0) 1 bytes ht hi0 hz hsz hby rfl (by decide) v xs.length _ hs hown.row ad n cap (ys.map (Value.int k)) hx (by simp [hr.len]) (hr.news rfl) (ints_oneCell _ _) (by unfold maxLen;omega) hbytes hbase ?_;intro v' w' h1 h2 _;refine h v' w' ⟨?_,?_⟩ ((qXh _ _).grown h2 hbase (fun b hb=>(hown.lt b hb).1)) (fun b hb hlt=>h2.block b hlt (fun e=>hb e.symm))
   ·rw [List.map_append]
    simpa [hr.len] using h1
   ·intro z hz'
    rcases List.mem_append.1 hz' with hz' | hz'
    ·exact hown.wf z hz'
    ·exact hr.wf z hz'
end Go.Proofs.YtbkofpljchkkaaaGreat
