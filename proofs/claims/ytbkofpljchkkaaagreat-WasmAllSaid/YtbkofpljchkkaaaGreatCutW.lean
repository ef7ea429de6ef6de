/- Words: CutW. -/
import Derived.Test.YtbkofpljchkkaaaGreatWaOpen
import Derived.Test.YtbkofpljchkkaaaGreatWC
import Derived.Test.YtbkofpljchkkaaaGreatCodeBody
import Derived.Test.YtbkofpljchkkaaaGreatKD
import Derived.Test.YtbkofpljchkkaaaGreatKA
set_option maxHeartbeats 1000000
namespace Go.Proofs.YtbkofpljchkkaaaGreat
open Go.RowKit
def j5 (s:ByteArray):ByteArray:=if 20 < s.size then s.extract 0 20 else s
def vE (t:MTy):MTy:=⟨t.ps.take 34,t.rs.take 3⟩
def xX (i:MIm):MIm:=⟨j5 i.mod,j5 i.name,i.typ⟩
def xY (e:MEx):MEx:=⟨j5 e.name,e.fn⟩
def xZ (e:MEl):MEl:=⟨e.off,e.fs.take 55⟩
def vF (c:MCo):MCo:=⟨c.ls.take 34,(c.body.take 120).map qOr⟩
def yA (d:MDa):MDa:=⟨d.off,d.bs.take 1010⟩
def qCd (M:MMo):MMo:=⟨(M.types.take 18).map vE,(M.imports.take 18).map xX,M.funcs.take 18,M.table,M.mem,M.globals.take 18,(M.exports.take 18).map xY,(M.elems.take 18).map xZ,(M.codes.take 18).map vF,(M.datas.take 18).map yA⟩
theorem qE0 (s:ByteArray):(j5 s).size <= 20:=by
 unfold j5;split
 ·simp;omega
 ·omega
def qE1 {α:Type} (B s:Nat) (R:World -> List Value -> α -> Prop) (x:α):Value -> World -> Prop:=fun v w=>∃ cs:List Value,v=.agg cs.toArray /\ cs.length=s /\ Bx (fun b=>B <= b /\ b < w.heap.size) w fun w=>R w cs x
def qCh {α:Type} (B s:Nat) (R:World -> List Value -> α -> Prop) (x:α):Value -> World -> Prop:=fun v w=>∃ (q:Nat) (cs:List Value),v=.slice (some ⟨q,0,none⟩) 1 1 /\ cs.length=s /\ (∀ u ∈ cs,u.oneCell'=true) /\ (∀ j u,cs[j]?=some u -> w.cell? ⟨q,j,none⟩=some u) /\ Bx (fun b=>B <= b /\ b < w.heap.size) w fun w=>R w cs x
section
variable {α:Type} {B s:Nat} {R:World -> List Value -> α -> Prop} {x:α}
theorem Bx.bel {Φ:World -> Prop} {w w':World} (h:Bx (fun b=>B <= b /\ b < w.heap.size) w Φ) (hb:Below w.heap.size w w'):Bx (fun b=>B <= b /\ b < w'.heap.size) w' Φ :=
 h.to (fun b hb'=>hb.block b hb'.2) fun _ hb'=>⟨hb'.1,qXr hb'.2 hb.size⟩
theorem qB.ag:qB (qE1 B s R x):=fun _ _ _ ⟨cs,e,hl,h⟩ hb=>⟨cs,e,hl,h.bel hb⟩
theorem qB.nw:qB (qCh B s R x):=fun _ _ _ ⟨q,cs,e,hl,ho,hc,h⟩ hb=>⟨q,cs,e,hl,ho,fun j u hj=>(hb.cell (p:=⟨q,j,none⟩) (qXc _ _ (hc j u hj))).trans (hc j u hj),h.bel hb⟩
def qV4 (p:Nat):Value -> World -> Prop:=fun v w=>∃ q:Nat,v=.pointer (some ⟨q,0,none⟩) /\ p + 2 <= q /\ w.heap[q]?=some (.cells #[.slice none 0 0,.slice none 0 0,.slice none 0 0,.bool false,.int .i64 0,.int .i64 0,.bool false,.int .i64 0,.int .i64 0,.slice none 0 0,.slice none 0 0,.slice none 0 0,.slice none 0 0,.slice none 0 0] 33 (0,0))
theorem qB.bk (p:Nat):qB (qV4 p):=fun _ _ _ ⟨q,e,h,hq⟩ hb=>⟨q,e,h,(hb.block q (qXw.1 hq).1).trans hq⟩
def qV5 (p:Nat) (F:List Int) (th:Bool) (tm tx:Int) (mh:Bool) (mm mx:Int):Value -> World -> Prop:=fun v w=>∃ o n c,v=.agg #[.slice none 0 0,.slice none 0 0,.slice o n c,.bool th,.int .i64 tm,.int .i64 tx,.bool mh,.int .i64 mm,.int .i64 mx,.slice none 0 0,.slice none 0 0,.slice none 0 0,.slice none 0 0,.slice none 0 0] /\ Own 3 .i64 (p + 2) w (.slice o n c) F
theorem qB.cm (p:Nat) (F:List Int) (th:Bool) (tm tx:Int) (mh:Bool) (mm mx:Int):qB (qV5 p F th tm tx mh mm mx):=fun _ _ _ ⟨o,n,c,e,h⟩ hb=>⟨o,n,c,e,Own.below h hb (qW8 _)⟩
def qVt {α:Type} (E:TypeId) (s:Nat) (R:World -> List Value -> α -> Prop) (B:Nat) (xs:List α):Value -> World -> Prop:=fun v w=>OwnG E s R B w v xs
theorem qB.og {α:Type} (E:TypeId) (s:Nat) (R:World -> List Value -> α -> Prop) (B:Nat) (xs:List α):qB (qVt E s R B xs):=fun _ _ _ h hb=>OwnG.below h hb (qW8 _)
theorem qCh.mk {w:World} {cs:List Value} {T:TypeId} (hl:cs.length=s) (ho:∀ u ∈ cs,u.oneCell'=true) (h:Bx (fun b=>B <= b /\ b < w.heap.size) w fun w=>R w cs x) :
    qCh B s R x (.slice (some ⟨w.heap.size,0,none⟩) 1 1) (w.alloc (.cells cs.toArray T)) :=
 ⟨_,cs,rfl,hl,ho,fun j u hj=>(Cel.new w cs T).cell j u hj,h.bel (Bl.alloc (Bl.refl w) _)⟩
end
section
variable {α:Type} {E:TypeId} {s:Nat} {R:World -> List Value -> α -> Prop} {z q S:Nat} {w0 wr w1 w2:World} {v v2:Value} {cs:List Value} {xs ys:List α} {Φ:World -> Prop}
theorem qAj (hb:Below z w0 wr) (hc:Cel wr q cs) (ho:OwnG E s R S wr v xs) (hp:Bx (fun b=>z <= b /\ b < S /\ b ≠ q) wr Φ) (hz:z <= q) (hqS:q < S) (hS:S <= wr.heap.size) (hC:Below wr.heap.size wr w1) (o2:w1.grownBy w2 v.ownBlock) (_h0:0 < cs.length) :
    Below z w0 w2 /\ Cel w2 q cs /\ Bx (fun b=>z <= b /\ b < S /\ b ≠ q) w2 Φ /\ S <= w2.heap.size:=by
 have hne:∀ b,b < S -> v.ownBlock ≠ some b:=fun b hb e=>by have:=(ho.lt b e).1;omega
 have hsz:=hC.size
 have hs2:=o2.size
 have hblk:∀ b,b < S -> w2.heap[b]?=wr.heap[b]?:=fun b hb'=>(o2.block b (by omega) (fun e=>hne b hb' e.symm)).trans (hC.block b (by omega))
 refine ⟨?_,hc.same (hblk q hqS),hp.keep (fun b hb'=>hblk b hb'.2.1),by omega⟩
 have h1:=hb.trans (hC.mono (show z <= wr.heap.size by omega))
 exact ⟨o2.os.trans h1.os,o2.tape.trans h1.tape,o2.output.trans h1.output,qXk h1.size o2.size,fun b hbl=>(hblk b (by omega)).trans (hb.block b hbl)⟩
theorem qAk (hb:Below z w0 w2) (hc:Cel w2 q cs) (ho:OwnG E s R S w2 v2 ys) (hp:Bx (fun b=>z <= b /\ b < S /\ b ≠ q) w2 Φ) (hz:z <= q) (hqS:q < S) (hS:S <= w2.heap.size) (_hz0:z <= w0.heap.size) (i:Nat) (u:Value) (hi:i < cs.length) :
    Below z w0 (w2.setCell ⟨q,i,none⟩ u) /\ Cel (w2.setCell ⟨q,i,none⟩ u) q (cs.set i u) /\ OwnG E s R S (w2.setCell ⟨q,i,none⟩ u) v2 ys /\ Bx (fun b=>z <= b /\ b < S /\ b ≠ q) (w2.setCell ⟨q,i,none⟩ u) Φ /\ S <= (w2.setCell ⟨q,i,none⟩ u).heap.size :=
 ⟨hb.setCell (p:=⟨q,i,none⟩) hz _,hc.set i u hi,ho.kept (qH w2 ⟨q,i,none⟩ _) (fun p e=>by have h:q=p:=(by simpa using e);omega),hp.keep (fun b hb'=>Below.heap_setCell w2 _ u b (fun e=>hb'.2.2 e)),by simpa using hS⟩
end
theorem Own.bxq {E:TypeId} {k:IntKind} {B q:Nat} {w:World} {v:Value} {xs:List Int} (h:Own E k B w v xs) {T:TypeId} {arr:Array Value} (hq:w.heap[q]?=some (.cells arr T (0,0))) (hT:T ≠ E):∃ ao cap,v=.slice ao xs.length cap /\ Bx (fun b=>B <= b /\ b < w.heap.size /\ b ≠ q) w fun w=>Rd k w ao xs.length cap xs:=by
 have hne:v.ownBlock ≠ some q:=fun e=>by
  obtain ⟨_,⟨rfl,_⟩ | ⟨g,cap,cur,rfl,_,hg,_⟩⟩:=h.row
  ·cases e
  ·cases e
   rw [hq] at hg
   cases hg
   exact hT rfl
 obtain ⟨ao,cap,rfl,hr⟩:=h.rd;refine ⟨ao,cap,rfl,fun w' h'=>⟨hr.len,hr.le,hr.max,hr.nil,fun ad ha i hi=>?_,hr.wf⟩⟩;have hc:=hr.cell ad ha i hi;have hb:=qXc w _ hc;have hg:=h.lt ad.block (by rw [ha];rfl);have e:(ad.add i).block=ad.block:=by unfold Addr.add;split <;> rfl
 refine (World.cell?_of_block (h' _ ⟨by omega,hb,fun e2=>hne ?_⟩)).trans hc;rw [ha,<- e2,e];rfl
theorem qE2 {P:Program} {w:World} (t ty E:TypeId) (k:IntKind) (bytes:Nat) (ht:P.underlying t=some (.slice E)) (hi:(P.info? E).map (fun i=>(i.zero,i.size,i.bytes))=some (some (.int k 0),1,bytes))
    (ao:Option Addr) (n cap:Nat) (ys:List Int) (hr:Rd k w ao n cap ys) (h63:n <= 4611686018427387904) (hbytes:n * bytes <= 140737488355328) :
    ∃ v' w',(Builtin.append_ #[t,t] ty #[.slice none 0 0,.slice ao n cap]).run P w=.ok v' w' /\ Own E k w.heap.size w' v' ys /\ Below w.heap.size w w':=by
 obtain ⟨i,hi0,hz,hsz,hby⟩:=info_parts hi
 cases ao with
 | none =>
   have hc:=hr.nil rfl;have hn:n=0:=by have:=hr.le;omega
   have hy:ys=[]:=List.eq_nil_of_length_eq_zero (by rw [hr.len];exact hn);subst hc hn hy;exact ⟨_,_,run_append_owned_none (P:=P) (w:=w) w.heap.size t ty E i 1 ht hi0 (.slice none 0 0) 0 [] (World.ownsRow_nil w _ E 1),Own.nil _ _ _ _,qXh _ _⟩
 | some ad =>
   obtain ⟨v',w',hrun,h1,h2,_⟩:=run_append_own (P:=P) w w.heap.size t ty E i (.int k 0) 1 bytes ht hi0 hz hsz hby rfl (by decide) (.slice none 0 0) 0 [] (World.ownsRow_nil w _ E 1) ad n cap (ys.map (Value.int k)) (by simp [hr.len]) (hr.news rfl) (ints_oneCell _ _) (by unfold maxLen;omega) (by simpa using hbytes) (qW8 _);refine ⟨v',w',hrun,⟨?_,hr.wf⟩,(qXh _ _).grown h2 (qW8 _) (fun _ h=>by cases h)⟩;simpa [hr.len] using h1
theorem qB6 {C:Nat -> Prop} {w:World} {Φ Ψ:World -> Prop} (h:Hid (Bx C w fun w=>Φ w /\ Ψ w)):∃ Φ':World -> Prop,Hid (∀ w,Φ' w -> Φ w /\ Ψ w) /\ Hid (Bx C w Φ'):=⟨_,hid fun _ h=>h,h⟩
theorem qU5 {V:MoV} {M:MMo} {w:World} {Pc Pl Pe Pg Pi Pt Pf:World -> Prop}
    (hd:Pc w /\ RdG 2 DaR w V.d.o V.d.n V.d.c M.datas) (hc:Pc w -> Pl w /\ RdG 2 CoR w V.c.o V.c.n V.c.c M.codes) (hl:Pl w -> Pe w /\ RdG 2 ElR w V.l.o V.l.n V.l.c M.elems) (he:Pe w -> Pg w /\ RdG 2 ExR w V.e.o V.e.n V.e.c M.exports)
    (hg:Pg w -> Pi w /\ RdG 3 GlR w V.g.o V.g.n V.g.c M.globals) (hi:Pi w -> Pt w /\ RdG 3 ImR w V.i.o V.i.n V.i.c M.imports) (ht:Pt w -> Pf w /\ RdG 2 TyR w V.t.o V.t.n V.t.c M.types) (hf:Pf w -> True /\ Rd .i64 w V.f.o V.f.n V.f.c M.funcs):MoR V M w:=by
 have h1:=hc hd.1
 have h2:=hl h1.1
 have h3:=he h2.1
 have h4:=hg h3.1
 have h5:=hi h4.1
 have h6:=ht h5.1
 exact ⟨h6.2,h5.2,(hf h6.1).2,h4.2,h3.2,h2.2,h1.2,hd.2⟩
theorem qAb {B:Nat} {w a b:World} {p:Nat} (h:Below B w a) (g:a.grownBy b (some p)) (hB:B <= a.heap.size) (hp:B <= p):Below B w b :=
 h.grown g hB fun k hk=>by cases hk;exact hp
theorem qS1 {w:World} {ao:Option Addr} {n cap:Nat} {xs:List Ins} {m:Nat} (h:RdG 4 InR w ao n cap xs):∀ I ∈ (xs.take m).map qOr,okI I:=by
 intro I hI;obtain ⟨J,hJ,rfl⟩:=List.mem_map.1 hI;obtain ⟨i,hi,rfl⟩:=List.mem_iff_getElem.1 (qXs hJ);obtain ⟨_,_,_,_,_,⟨_,_,_,_,_,hok⟩,_⟩:=h.cell i xs[i] (qW6 hi);exact hok
theorem Rd.shortD {ao:Option Addr} {n cap:Nat} {xs:List Int} {w:World} (hr:Rd .u8 w ao n cap xs):Rd .u8 w ao (min n 1010) cap (xs.take 1010):=by
 have hle:=hr.le
 exact ⟨by rw [qXu,hr.len,Nat.min_comm],by omega,hr.max,hr.nil,fun ad ha i hi=>by
     rw [hr.cell ad ha i (by omega)]
     simp [List.getD,show i < 1010 by omega],fun z hz=>hr.wf z (qXs hz)⟩
theorem qC1 (m:Nat) (m':Int) (hm':m'=m) (hm:m <= 1000) (ao:Option Addr) (n cap:Nat) (xs:List Int) (w:World) (hr:Rd .i64 w ao n cap xs) :
    Calls Tryz.prog 18 #[.slice ao n cap,.int .i64 m'] w fun e w'=>∃ v,e=.returned v /\ Own 3 .i64 w.heap.size w' v (xs.take m) /\ Below w.heap.size w w':=by
 subst hm'
 have hn63:n <= 9223372036854775807:=by have h1:=hr.le;have h2:=hr.max;unfold maxLen at h2;omega
 have Hr:=hid hr
 have Hx:=hid hr.len
 clear hr
 go_enter Tryz.func18,Tryz.ntmps18
 go_wp2_with fail
 go_loopw [5,6] (fun v i wr=>∃ k:Nat,k <= n /\ k <= m /\ i=.int .i64 k /\ Own 3 .i64 w.heap.size wr v (xs.take k) /\ Below w.heap.size w wr) (fun _ i _=>m - (intOf i).toNat)
 case atStart=>exact ⟨0,qXf _,qXf _,rfl,by simpa using Own.nil _ _ _ _,qXh _ _⟩
 case round =>
  obtain ⟨k,hkn,hkm,rfl,hown,hb⟩:=hrel;have hsz:=hb.size;have HO:=hid hown;have HB:=hid hb;clear hown hb;by_cases hk:k < n /\ k < m
  ·obtain ⟨hk,hk3⟩:=hk;obtain ⟨b,off,rfl,hc⟩:=(Hr.out.below HB.out).at (by omega)
   have hck:=hc k hk
   have hkl:k < xs.length:=(by rw [Hx.out];exact hk)
   obtain ⟨x,hxk⟩:∃ x,x=xs.getD k 0:=⟨_,rfl⟩
   have hs:=qA3 hkl;rw [<- hxk] at hck hs;have HWX:Hid ((Lit.int .i64 x).wf=true):=hid (by rw [hxk];exact Hr.out.wf _ (Hr.out.mem hk));have Htk0:(xs.take k).length=k:=by simp;omega
   obtain ⟨ys,hys⟩:∃ ys,ys=xs.take k:=⟨_,rfl⟩
   rw [<- hys] at HO Htk0 hs;have Htk:=hid Htk0;have Hs:=hid hs;clear Htk0 hys hc hxk hs
   go_wp2_with (at_builtin;refine qA rfl (.tmp 18) (.tmp 23) 24 rfl 3 .i64 w.heap.size 8 Tryz.underlying24 qE5 _ ys rfl (HO.out.below (Bl.alloc (Bl.refl _) _) (qW8 _)) (some ⟨wr.heap.size,0,none⟩) 1 1 [x] rfl (Rd.built wr .i64 3 x HWX.out) (by have:=Htk.out;omega) (by have:=Htk.out;omega) (by simp;omega) ?_;intro v2 w2 h3 h4 _;have HO2:=hid h3;have HB2:=hid ((HB.out.trans ((Bl.alloc (Bl.refl wr) (.cells #[.int .i64 x] 3)).mono hsz)).trans h4);clear h3 h4)
   go_roundw
   case rel=>exact ⟨k + 1,by omega,by omega,by go_num,by rw [Hs.out];exact HO2.out,HB2.out⟩
   case measure=>simp [intOf];omega
  ·have htk:xs.take m=xs.take k:=by
      rcases Nat.lt_or_ge k m with h3 | h3
      ·have:¬ k < n:=fun h=>hk ⟨h,h3⟩;rw [qW9 (by rw [Hx.out];omega),qW9 (by rw [Hx.out];omega)]
      ·rw [show k=m by omega]
   rw [<- htk] at HO;clear htk;rcases Nat.lt_or_ge k n with h3 | h3
   ·have hk3:¬ k < m:=fun h=>hk ⟨h3,h⟩
    go_wp2_with fail;go_ret;exact ⟨_,rfl,HO.out,HB.out⟩
   ·go_wp2_with fail;go_ret;exact ⟨_,rfl,HO.out,HB.out⟩
theorem qBo (s:ByteArray) (w:World):Calls Tryz.prog 19 #[.string s] w fun e w'=>e=.returned (.string (j5 s)) /\ w=w':=by
 by_cases h:20 < s.size
 ·have e:j5 s=s.extract 0 20:=if_pos h;rw [e];clear e;go_enter Tryz.func19,Tryz.ntmps19;go_wp2;go_ret;exact ⟨rfl,rfl⟩
 ·have e:j5 s=s:=if_neg h;rw [e];clear e;go_enter Tryz.func19,Tryz.ntmps19;go_wp2;go_ret;exact ⟨rfl,rfl⟩
theorem qM4 (ao:Option Addr) (n cap:Nat) (xs:List Int) (w:World) (hr:Rd .u8 w ao n cap xs) :
    Calls Tryz.prog 21 #[.slice ao n cap,.int .i64 1010] w fun e w'=>(e=.returned (.slice ao (min n 1010) cap) /\ Rd .u8 w ao (min n 1010) cap (xs.take 1010)) /\ w=w':=by
 have hle:=hr.le
 have hcap:cap <= 9223372036854775807:=by have h2:=hr.max;unfold maxLen at h2;omega
 have hx:=hr.shortD
 have HX:=hid hx
 clear hx hr
 by_cases h:1010 < n
 ·have hmc:1010 <= cap:=by omega
  go_enter Tryz.func21,Tryz.ntmps21;go_wp2;go_ret;exact ⟨⟨by rw [Nat.min_eq_right (by omega)];rfl,HX.out⟩,rfl⟩
 ·go_enter Tryz.func21,Tryz.ntmps21;go_wp2;go_ret;exact ⟨⟨by rw [Nat.min_eq_left (by omega)];rfl,HX.out⟩,rfl⟩
end Go.Proofs.YtbkofpljchkkaaaGreat
