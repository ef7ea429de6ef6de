/- Words: WA. -/
import Derived.Lib.ConvBytes
import Derived.Shelf.Abstract
import Derived.Outline
import Derived.Handy
import Derived.Test.YtbkofpljchkkaaaGreatKE
import Derived.Test.YtbkofpljchkkaaaGreatKA
import Derived.Test.YtbkofpljchkkaaaGreatKC
import Derived.Test.YtbkofpljchkkaaaGreatKD
set_option maxRecDepth 100000
set_option maxHeartbeats 2000000
namespace Go.Proofs.YtbkofpljchkkaaaGreat
open Go.RowKit
def nb (s:ByteArray):List Int:=s.data.toList.map fun b=>(b.toNat:Int)
theorem qA9 (s:ByteArray):(nb s).length=s.size:=by simp [nb]
theorem qVd (s:ByteArray):strOfNums (nb s)=s:=by
 refine ByteArray.ext (Array.toList_inj.1 ?_);rw [strOfNums_data];simp [nb,Function.comp_def]
theorem qWc (s:ByteArray):∀ x ∈ nb s,0 <= x /\ x <= 255:=by
 intro x hx;obtain ⟨b,_,rfl⟩:=List.mem_map.1 hx;have:=b.toNat_lt;omega
structure MTy where
 ps:List Int
 rs:List Int
structure MIm where
 mod:ByteArray
 name:ByteArray
 typ:Int
structure MLi where
 has:Bool
 mn:Int
 mx:Int
structure MGl where
 mu:Bool
 kind:Int
 n:Int
structure MEx where
 name:ByteArray
 fn:Int
structure MEl where
 off:Int
 fs:List Int
structure MCo where
 ls:List Int
 body:List Ins
structure MDa where
 off:Int
 bs:List Int
structure MMo where
 types:List MTy:=[]
 imports:List MIm:=[]
 funcs:List Int:=[]
 table:MLi:=⟨false,0,0⟩
 mem:MLi:=⟨false,0,0⟩
 globals:List MGl:=[]
 exports:List MEx:=[]
 elems:List MEl:=[]
 codes:List MCo:=[]
 datas:List MDa:=[]
def qT {α:Type} (f:α -> List Int) (l:List α):List Int:=qZ 9 (l.length:Int) ++ l.flatMap f
def szE (b:List Int):List Int:=qZ 9 (b.length:Int) ++ b
def qL {α:Type} (k:Int) (f:α -> List Int):List α -> List Int
 | []=>[]
 | l=>k :: szE (qT f l)
def kB (k:Int):Int:=if k=2 then 126 else 127
def kE (k:Int):List Int:=[kB k]
def jG (n:Int):List Int:=qZ 9 n
def tyE (t:MTy):List Int:=96 :: (qT kE t.ps ++ qT kE t.rs)
def nmE (s:ByteArray):List Int:=szE (nb s)
def imE (i:MIm):List Int:=nmE i.mod ++ (nmE i.name ++ (0 :: jG i.typ))
def liE (x:MLi):List Int:=if x.mx=-1 then 0 :: jG x.mn else 1 :: (jG x.mn ++ jG x.mx)
def taE (x:MLi):List Int:=112 :: liE x
def qBk (kind n:Int):List Int:=uW (if kind=2 then 66 else 65) n 0 [] ++ [11]
def muB (b:Bool):Int:=if b then 1 else 0
def glE (g:MGl):List Int:=kB g.kind :: muB g.mu :: qBk g.kind g.n
def exE (e:MEx):List Int:=nmE e.name ++ (0 :: jG e.fn)
def elE (e:MEl):List Int:=0 :: (qBk 1 e.off ++ qT jG e.fs)
def zV:List Int -> List (Int × Int)
 | []=>[]
 | k :: r=>match zV r with
   | (n,k') :: q=>if k=k' then (n + 1,k) :: q else (1,k) :: (n,k') :: q
   | []=>[(1,k)]
def ruE (r:Int × Int):List Int:=jG r.1 ++ kE r.2
def coE (c:MCo):List Int:=szE (qT ruE (zV c.ls) ++ (jN c.body ++ [11]))
def daE (d:MDa):List Int:=0 :: (qBk 1 d.off ++ szE d.bs)
def yX:List Int:=[0,97,115,109,1,0,0,0]
def jB (x:MLi):List MLi:=if x.has then [x] else []
def moE (m:MMo):List Int :=
 yX ++ (qL 1 tyE m.types ++ (qL 2 imE m.imports ++ (qL 3 jG m.funcs ++ (qL 4 taE (jB m.table) ++ (qL 5 liE (jB m.mem) ++ (qL 6 glE m.globals ++ (qL 7 exE m.exports ++ (qL 9 elE m.elems ++ (qL 10 coE m.codes ++ qL 11 daE m.datas)))))))))
def yG (k:Int):Bool:=k == 1 || k == 2
def jQ (n:Int):Bool:=decide (0 <= n) && decide (n <= 1000)
def xL (t:MTy):Bool:=decide (t.ps.length <= 32) && decide (t.rs.length <= 1) && t.ps.all yG && t.rs.all yG
def qBt (x:Int):Bool:=decide (32 <= x) && decide (x <= 126)
def zF (s:ByteArray):Bool:=decide (1 <= s.size) && decide (s.size <= 16) && (nb s).all qBt
def xD (i:MIm):Bool:=zF i.mod && zF i.name && jQ i.typ
def zS (x:MLi) (a b:Int):Bool:=if x.has then decide (0 <= x.mn) && decide (x.mn <= a) && decide (-1 <= x.mx) && decide (x.mx <= b) else x.mn == 0 && x.mx == 0
def uX (k n:Int):Bool:=if k=1 then decide (-2147483648 <= n) && decide (n <= 2147483647) else k == 2
def yY (g:MGl):Bool:=uX g.kind g.n
def xM (e:MEx):Bool:=zF e.name && jQ e.fn
def j6 (n:Int):Bool:=decide (-2147483648 <= n) && decide (n <= 2147483647)
def zT (e:MEl):Bool:=j6 e.off && decide (e.fs.length <= 50) && e.fs.all jQ
def qAm (l:List Ins):Bool:=(qC0 (vP l)).isSome && l.all zL
def zM (c:MCo):Bool:=decide (c.ls.length <= 32) && c.ls.all yG && qAm c.body
def zG (d:MDa):Bool:=j6 d.off && decide (d.bs.length <= 1000)
def jH (m:MMo):Bool :=
 decide (m.types.length <= 16) && decide (m.imports.length + m.funcs.length <= 16) && decide (m.globals.length <= 16) && decide (m.exports.length <= 16) && decide (m.elems.length <= 16) && decide (m.datas.length <= 16) && m.codes.length == m.funcs.length
def qV (m:MMo):Bool :=
 m.types.all xL && m.imports.all xD && m.funcs.all jQ && zS m.table 16 1000 && zS m.mem 16 65536 && m.globals.all yY && m.exports.all xM && m.elems.all zT && m.codes.all zM && m.datas.all zG
def jT (m:MMo):Bool:=jH m && qV m && decide ((moE m).length <= 8000)
def zI (l:List (Int × Int)):List Int:=l.flatMap fun r=>List.replicate r.1.toNat r.2
theorem qCl:∀ l:List Int,∀ r ∈ zV l,1 <= r.1
 | [],r,h=>by simp [zV] at h
 | k :: q,r,h=>by
   have ih:=qCl q;unfold zV at h;split at h
   ·next n k' q' he =>
    rw [he] at ih;have h1:=ih (n,k') (by simp);split at h
    ·rcases List.mem_cons.1 h with rfl | h
     ·simp only at *;omega
     ·exact ih r (by simp [h])
    ·rcases List.mem_cons.1 h with rfl | h
     ·exact Int.le_refl _
     ·exact ih r h
   ·simp at h;subst h;exact Int.le_refl _
theorem vJ:∀ l:List Int,zI (zV l)=l
 | []=>rfl
 | k :: q=>by
   have ih:=vJ q;have hp:=qCl q;unfold zV;split
   ·next n k' q' he =>
    rw [he] at ih hp;have h1:=hp (n,k') (by simp);simp only at h1;by_cases e:k=k'
    ·subst e
     rw [if_pos rfl];simp only [zI,List.flatMap_cons] at ih ⊢;rw [show (n + 1).toNat=n.toNat + 1 by omega,List.replicate_succ,List.cons_append,ih]
    ·rw [if_neg e]
     simp only [zI,List.flatMap_cons] at ih ⊢;simp [ih]
   ·next he =>
    rw [he] at ih;simp [zI] at ih ⊢;exact ih
theorem qBa:∀ l:List Int,(zV l).length <= l.length
 | []=>by simp [zV]
 | k :: q=>by
   have ih:=qBa q;unfold zV;split
   ·next n k' q' he =>
    rw [he] at ih;split <;> simp at * <;> omega
   ·simp
theorem qNr:∀ l:List Int,∀ r ∈ zV l,r.2 ∈ l:=by
 intro l r h;have h1:=qCl l r h;have h2:=vJ l;rw [<- h2];exact List.mem_flatMap.2 ⟨r,h,List.mem_replicate.2 ⟨by omega,rfl⟩⟩
theorem qH5 (l:List (Int × Int)) (r:Int × Int):zI (l ++ [r])=zI l ++ List.replicate r.1.toNat r.2:=by simp [zI]
theorem qK6 (l q:List (Int × Int)):(zI (l ++ q)).length=(zI l).length + (zI q).length:=by simp [zI]
open Go.RowKit
structure Cel (w:World) (p:Nat) (cs:List Value):Prop where
 cell:∀ i v,cs[i]?=some v -> w.cell? ⟨p,i,none⟩=some v
 fro:∀ i v,cs[i]?=some v -> w.frozen? ⟨p,i,none⟩=false
section
variable {w w':World} {p:Nat} {cs:List Value}
theorem Cel.new (w:World) (cs:List Value) (T:TypeId):Cel (w.alloc (.cells cs.toArray T)) w.heap.size cs:=by
 have h0:(w.alloc (.cells cs.toArray T)).heap[w.heap.size]?=some (.cells cs.toArray T (0,0)):=heap_alloc_new w _;constructor
 ·intro i v hi
  unfold World.cell?;dsimp only;rw [h0];simpa using hi
 ·intro i v hi
  unfold World.frozen?;dsimp only;rw [h0];simp
theorem Cel.same (h:Cel w p cs) (hb:w'.heap[p]?=w.heap[p]?):Cel w' p cs :=
 ⟨fun i v hi=>(World.cell?_of_block (a:=⟨p,i,none⟩) hb).trans (h.cell i v hi),fun i v hi=>(World.frozen?_of_block (a:=⟨p,i,none⟩) hb).trans (h.fro i v hi)⟩
theorem Cel.lt (h:Cel w p cs) (h0:0 < cs.length):p < w.heap.size:=qXc w ⟨p,0,none⟩ (h.cell 0 cs[0] (qW6 h0))
theorem Cel.below (h:Cel w p cs) (h0:0 < cs.length) (hb:Below w.heap.size w w'):Cel w' p cs:=h.same (hb.block p (h.lt h0))
theorem Cel.keep {B:Nat} (h:Cel w p cs) (hp:p < B) (hb:Below B w w'):Cel w' p cs:=h.same (hb.block p hp)
theorem Cel.grown {r:Option Nat} (h:Cel w p cs) (h0:0 < cs.length) (hb:w.grownBy w' r) (hr:r ≠ some p):Cel w' p cs:=h.same (hb.block p (h.lt h0) (fun e=>hr e.symm))
theorem Cel.other (h:Cel w p cs) {q:Nat} (hq:p ≠ q) (o:Nat) (u:Value):Cel (w.setCell ⟨q,o,none⟩ u) p cs:=h.same (Below.heap_setCell w _ u p hq)
theorem Cel.set (h:Cel w p cs) (i:Nat) (u:Value) (hi:i < cs.length):Cel (w.setCell ⟨p,i,none⟩ u) p (cs.set i u):=by
 have hci:=h.cell i cs[i] (qW6 hi);have hfi:=h.fro i cs[i] (qW6 hi);constructor
 ·intro j v hj
  by_cases e:i=j
  ·subst e
   rw [List.getElem?_set_self (by simpa using hi)] at hj
   cases hj
   go_simp
  ·rw [List.getElem?_set_ne e] at hj
   have hcj:=h.cell j v hj;have e':¬ j=i:=fun h=>e h.symm
   go_simp
 ·intro j v hj
  have hjl:j < cs.length:=by have:=(qXt.1 hj).1;simpa using this
  have hfj:=h.fro j cs[j] (qW6 hjl);go_simp
end
theorem jE {w:World} (ps:List Piece) (h:∀ p ∈ ps,Rd .u8 w p.ao p.n p.cap p.xs) (T:TypeId):Pieces (w.alloc (.cells (ps.map Piece.v).toArray T)) w.heap.size 0 ps:=by
 have hb:=Cel.new w (ps.map Piece.v) T;refine ⟨fun k hk=>?_,fun k hk=>?_⟩
 ·rw [Nat.zero_add]
  exact hb.cell k _ (by simp [List.getD,hk])
 ·have hm:ps.getD k default ∈ ps:=by
     simp only [List.getD,qW6 hk,Option.getD_some];exact List.getElem_mem hk
  exact (h _ hm).below (Bl.alloc (Bl.refl w) _)
def TyR (w:World) (cs:List Value) (x:MTy):Prop:=∃ a n c a' n' c',cs=[.slice a n c,.slice a' n' c'] /\ Rd .i64 w a n c x.ps /\ Rd .i64 w a' n' c' x.rs
def ImR (_:World) (cs:List Value) (x:MIm):Prop:=cs=[.string x.mod,.string x.name,.int .i64 x.typ]
def LiR (_:World) (cs:List Value) (x:MLi):Prop:=cs=[.bool x.has,.int .i64 x.mn,.int .i64 x.mx]
def GlR (_:World) (cs:List Value) (x:MGl):Prop:=cs=[.bool x.mu,.int .i64 x.kind,.int .i64 x.n] /\ -9223372036854775808 <= x.n /\ x.n <= 9223372036854775807
def ExR (_:World) (cs:List Value) (x:MEx):Prop:=cs=[.string x.name,.int .i64 x.fn]
def ElR (w:World) (cs:List Value) (x:MEl):Prop:=∃ a n c,cs=[.int .i64 x.off,.slice a n c] /\ Rd .i64 w a n c x.fs
def InR (w:World) (cs:List Value) (x:Ins):Prop:=∃ a n c,cs=[.int .i64 x.op,.int .i64 x.a,.int .i64 x.b,.slice a n c] /\ Rd .i64 w a n c x.l /\ okI x
def CoR (w:World) (cs:List Value) (x:MCo):Prop:=∃ a n c a' n' c',cs=[.slice a n c,.slice a' n' c'] /\ Rd .i64 w a n c x.ls /\ RdG 4 InR w a' n' c' x.body
def DaR (w:World) (cs:List Value) (x:MDa):Prop:=∃ a n c,cs=[.int .i64 x.off,.slice a n c] /\ Rd .u8 w a n c x.bs
def RuR (_:World) (cs:List Value) (x:Int × Int):Prop:=cs=[.int .i64 x.1,.int .i64 x.2]
theorem RdG.insP {w:World} {ao:Option Addr} {n cap:Nat} {xs:List Ins} (h:RdG 4 InR w ao n cap xs):RdP w (fun _=>True) ao n cap xs:=by
 refine ⟨h.len,h.le,h.max,fun i hi=>?_,fun i hi=>?_⟩
 ·have hil:i < xs.length:=by rw [h.len];exact hi
  obtain ⟨b,off,cs,e,_,⟨a1,n1,k1,rfl,hr,hok⟩,hc⟩:=h.cell i xs[i] (qW6 hil);have hg:xs.getD i default=xs[i]:=by simp [List.getD,hil]
  rw [hg];exact ⟨b,off,a1,n1,k1,e,by have:=hc 0 _ rfl;rwa [qXd] at this,hc 1 _ rfl,hc 2 _ rfl,hc 3 _ rfl,hr,fun _ _=>trivial⟩
 ·have hil:i < xs.length:=by rw [h.len];exact hi
  obtain ⟨b,off,cs,e,_,⟨a1,n1,k1,rfl,hr,hok⟩,hc⟩:=h.cell i xs[i] (qW6 hil);have hg:xs.getD i default=xs[i]:=by simp [List.getD,hil]
  rw [hg];exact hok
open Go.RowKit
theorem qBu (s:ByteArray) (w:World) (hs:s.size <= 1000000):∃ cap w',(convert 9 37 (.string s)).run Tryz.prog w=.ok (.slice (some ⟨w.heap.size,0,none⟩) s.size cap) w' /\ Rd .u8 w' (some ⟨w.heap.size,0,none⟩) s.size cap (nb s) /\ Below w.heap.size w w':=by
 refine ⟨_,_,Lib.run_convert_string_bytes (P:=Tryz.prog) w 9 37 5 s (u:=.string) Tryz.underlying9 Tryz.underlying37 Tryz.underlying5,⟨?_,?_,?_,(fun h=>by cases h),?_,?_⟩,?_⟩
 ·exact qA9 s
 ·exact grownCap_ge w _ _ _
 ·exact grownCap_le_maxLen w s.size 0 5 (by unfold maxLen;omega)
 ·intro ad ha i hi
  cases ha
  rw [Addr.add_lit,Nat.zero_add,Lib.bytesWorld_cell w _ s i hi];have hi':i < s.data.size:=hi;simp [nb,List.getD,Array.getElem?_eq_getElem hi']
 ·intro x hx
  have:=qWc s x hx;exact WalkArith.wf_u8 this
 ·exact ⟨rfl,rfl,rfl,by rw [Lib.bytesWorld_size];omega,fun k hk=>Lib.bytesWorld_at_old w _ s k hk⟩
open Go.RowKit
theorem qX {α:Type} (p:α -> Bool) (xs:List α) (k:Nat) (x:α) (hx:xs[k]?=some x) (h:(xs.take k).all p=true):(p x=false -> xs.all p=false) /\ (p x=true -> (xs.take (k + 1)).all p=true):=by
 constructor
 ·intro hp
  rw [List.all_eq_false];exact ⟨x,qXa hx,by simp [hp]⟩
 ·intro hp
  rw [qXy,List.all_append,h,hx];simp [hp]
theorem qNs (g:Nat) (p:Int -> Bool) (ao:Option Addr) (n cap:Nat) (xs:List (Int)) (w:World) (h:Rx w fun w=>RdG 1 (IR .i64) w ao n cap xs) (he:∀ args w,(callFunc g args).run Tryz.prog w=.ok (.enter g args) w)
    (HF:∀ w cs x,x ∈ xs -> (Rx w fun w=>IR .i64 w cs x) -> Calls Tryz.prog g #[(cs.getD 0 undef)] w fun e w'=>e=.returned (.bool (p x)) /\ Below w.heap.size w w') :
    Calls Tryz.prog 86 #[.slice ao n cap,.func (.func g) #[] #[]] w fun e w'=>e=.returned (.bool (xs.all p)) /\ Below w.heap.size w w':=by
 have hl:=h.now.len
 obtain ⟨h63,h63'⟩:=h.now.cap63
 have H:=hid h
 have Hl:=hid hl
 have HFF:=hid HF
 clear h HF
 go_enter Tryz.func86,Tryz.ntmps86
 go_wp2_with fail
 go_loopw [6,9] (fun _ i wr=>∃ k:Nat,k <= n /\ i=.int .i64 k /\ Hid ((xs.take k).all p=true) /\ Below w.heap.size w wr) (fun _ i _=>n - (intOf i).toNat)
 case atStart=>exact ⟨0,qXf _,rfl,by simp [Hid],qXh _ _⟩
 case round =>
  obtain ⟨k,hkn,rfl,HA,hb⟩:=hrel;have hsz:=hb.size;have HB:=hid hb;clear hb;by_cases hk:k < n
  ·obtain ⟨x,hx⟩:∃ x,xs[k]?=some x:=⟨xs[k]'(by omega),qW6 (by omega)⟩
   obtain ⟨b,off,cs,rfl,hcl,hR,hc⟩:=RdG.elem (H.out.below HB.out) hx;skip;obtain ⟨rfl,hw⟩:=hR.now;have c0:=hc 0 _ rfl;rw [qXd] at c0;rw [Nat.mul_one] at c0;have HR:=hid hR;have hcut:=hid (qX p xs k _ hx HA.out);have HX:=hid (qXa hx);clear hc hR hx hcl hw hl;have hcall:=HFF.out wr _ _ HX.out HR.out
   obtain ⟨px,hpx⟩:∃ px,p x=px:=⟨_,rfl⟩
   rw [hpx] at hcall;have HCALL:=hid hcall;have HPX:=hid hpx;clear hpx hcall;go_wp2_with fail;refine HCALL.out.mono ?_;rintro e w1 ⟨rfl,hb1⟩;have HB1:=hid (HB.out.trans (hb1.mono hsz));clear hb1 HCALL c0
   cases px with
   | true =>
     have HA2:=hid (hcut.out.2 HPX.out);clear hcut HPX HA;go_wp2_with fail;go_roundw
     case rel=>exact ⟨k + 1,by omega,by go_num,HA2.out,HB1.out⟩
     case measure=>simp [intOf];omega
   | false =>
     have HA2:=hid (hcut.out.1 HPX.out);clear hcut HPX HA;go_wp2_with fail;exact bodyPost_ret (v:=.bool false) (by simp [results,Tryz.results86,go_sem]) rfl ⟨by rw [HA2.out],HB1.out⟩
  ·have e0:k=n:=by omega
   subst e0;have ht:xs.take k=xs:=qW9 (by rw [Hl.out];exact qW8 _);have ha:=HA.out;rw [ht] at ha;have HA2:=hid ha;clear ht ha hl;go_wp2_with fail;exact bodyPost_ret (v:=.bool true) (by simp [results,Tryz.results86,go_sem]) rfl ⟨by rw [HA2.out],HB.out⟩
theorem qTl (g:Nat) (p:Int -> Bool) (ao:Option Addr) (n cap:Nat) (xs:List (Int)) (w:World) (h:Rx w fun w=>RdG 1 (IR .u8) w ao n cap xs) (he:∀ args w,(callFunc g args).run Tryz.prog w=.ok (.enter g args) w)
    (HF:∀ w cs x,x ∈ xs -> (Rx w fun w=>IR .u8 w cs x) -> Calls Tryz.prog g #[(cs.getD 0 undef)] w fun e w'=>e=.returned (.bool (p x)) /\ Below w.heap.size w w') :
    Calls Tryz.prog 181 #[.slice ao n cap,.func (.func g) #[] #[]] w fun e w'=>e=.returned (.bool (xs.all p)) /\ Below w.heap.size w w':=by
 have hl:=h.now.len
 obtain ⟨h63,h63'⟩:=h.now.cap63
 have H:=hid h
 have Hl:=hid hl
 have HFF:=hid HF
 clear h HF
 go_enter Tryz.func181,Tryz.ntmps181
 go_wp2_with fail
 go_loopw [6,9] (fun _ i wr=>∃ k:Nat,k <= n /\ i=.int .i64 k /\ Hid ((xs.take k).all p=true) /\ Below w.heap.size w wr) (fun _ i _=>n - (intOf i).toNat)
 case atStart=>exact ⟨0,qXf _,rfl,by simp [Hid],qXh _ _⟩
 case round =>
  obtain ⟨k,hkn,rfl,HA,hb⟩:=hrel;have hsz:=hb.size;have HB:=hid hb;clear hb;by_cases hk:k < n
  ·obtain ⟨x,hx⟩:∃ x,xs[k]?=some x:=⟨xs[k]'(by omega),qW6 (by omega)⟩
   obtain ⟨b,off,cs,rfl,hcl,hR,hc⟩:=RdG.elem (H.out.below HB.out) hx;skip;obtain ⟨rfl,hw⟩:=hR.now;have c0:=hc 0 _ rfl;rw [qXd] at c0;rw [Nat.mul_one] at c0;have HR:=hid hR;have hcut:=hid (qX p xs k _ hx HA.out);have HX:=hid (qXa hx);clear hc hR hx hcl hw hl;have hcall:=HFF.out wr _ _ HX.out HR.out
   obtain ⟨px,hpx⟩:∃ px,p x=px:=⟨_,rfl⟩
   rw [hpx] at hcall;have HCALL:=hid hcall;have HPX:=hid hpx;clear hpx hcall;go_wp2_with fail;refine HCALL.out.mono ?_;rintro e w1 ⟨rfl,hb1⟩;have HB1:=hid (HB.out.trans (hb1.mono hsz));clear hb1 HCALL c0
   cases px with
   | true =>
     have HA2:=hid (hcut.out.2 HPX.out);clear hcut HPX HA;go_wp2_with fail;go_roundw
     case rel=>exact ⟨k + 1,by omega,by go_num,HA2.out,HB1.out⟩
     case measure=>simp [intOf];omega
   | false =>
     have HA2:=hid (hcut.out.1 HPX.out);clear hcut HPX HA;go_wp2_with fail;exact bodyPost_ret (v:=.bool false) (by simp [results,Tryz.results181,go_sem]) rfl ⟨by rw [HA2.out],HB1.out⟩
  ·have e0:k=n:=by omega
   subst e0;have ht:xs.take k=xs:=qW9 (by rw [Hl.out];exact qW8 _);have ha:=HA.out;rw [ht] at ha;have HA2:=hid ha;clear ht ha hl;go_wp2_with fail;exact bodyPost_ret (v:=.bool true) (by simp [results,Tryz.results181,go_sem]) rfl ⟨by rw [HA2.out],HB.out⟩
theorem qQf (g:Nat) (p:MTy -> Bool) (ao:Option Addr) (n cap:Nat) (xs:List (MTy)) (w:World) (h:Rx w fun w=>RdG 2 (TyR) w ao n cap xs) (he:∀ args w,(callFunc g args).run Tryz.prog w=.ok (.enter g args) w)
    (HF:∀ w cs x,x ∈ xs -> (Rx w fun w=>TyR w cs x) -> Calls Tryz.prog g #[.agg cs.toArray] w fun e w'=>e=.returned (.bool (p x)) /\ Below w.heap.size w w') :
    Calls Tryz.prog 82 #[.slice ao n cap,.func (.func g) #[] #[]] w fun e w'=>e=.returned (.bool (xs.all p)) /\ Below w.heap.size w w':=by
 have hl:=h.now.len
 obtain ⟨h63,h63'⟩:=h.now.cap63
 have H:=hid h
 have Hl:=hid hl
 have HFF:=hid HF
 clear h HF
 go_enter Tryz.func82,Tryz.ntmps82
 go_wp2_with fail
 go_loopw [9] (fun i wr=>∃ k:Nat,k <= n /\ i=.int .i64 k /\ Hid ((xs.take k).all p=true) /\ Below w.heap.size w wr) (fun i _=>n - (intOf i).toNat)
 case atStart=>exact ⟨0,qXf _,rfl,by simp [Hid],qXh _ _⟩
 case round =>
  obtain ⟨k,hkn,rfl,HA,hb⟩:=hrel;have hsz:=hb.size;have HB:=hid hb;clear hb;by_cases hk:k < n
  ·obtain ⟨x,hx⟩:∃ x,xs[k]?=some x:=⟨xs[k]'(by omega),qW6 (by omega)⟩
   obtain ⟨b,off,cs,rfl,hcl,hR,hc⟩:=RdG.elem (H.out.below HB.out) hx;obtain ⟨y1,y2⟩:=x;obtain ⟨a1,n1,k1,a2,n2,k2,rfl,hr1,hr2⟩:=hR.now;have c0:=hc 0 _ rfl;rw [qXd] at c0;have c1:=hc 1 _ rfl;have HR:=hid hR;have hcut:=hid (qX p xs k _ hx HA.out);have HX:=hid (qXa hx);clear hc hR hx hcl hr1 hr2 hl;have hcall:=HFF.out (wr.alloc (.cells #[.slice a1 n1 k1,.slice a2 n2 k2] 53)) _ _ HX.out (HR.out.alloc _)
   obtain ⟨px,hpx⟩:∃ px,p ⟨y1,y2⟩=px:=⟨_,rfl⟩
   rw [hpx] at hcall;have HCALL:=hid hcall;have HPX:=hid hpx;clear hpx hcall;go_wp2_with fail;refine HCALL.out.mono ?_;rintro e w1 ⟨rfl,hb1⟩;have HB1:=hid (HB.out.trans ((Bl.step (Bl.alloc (Bl.refl wr) _) hb1).mono hsz));clear hb1 HCALL c0 c1
   cases px with
   | true =>
     have HA2:=hid (hcut.out.2 HPX.out);clear hcut HPX HA;go_wp2_with fail;go_roundw
     case rel=>exact ⟨k + 1,by omega,by go_num,HA2.out,HB1.out⟩
     case measure=>simp [intOf];omega
   | false =>
     have HA2:=hid (hcut.out.1 HPX.out);clear hcut HPX HA;go_wp2_with fail;exact bodyPost_ret (v:=.bool false) (by simp [results,Tryz.results82,go_sem]) rfl ⟨by rw [HA2.out],HB1.out⟩
  ·have e0:k=n:=by omega
   subst e0;have ht:xs.take k=xs:=qW9 (by rw [Hl.out];exact qW8 _);have ha:=HA.out;rw [ht] at ha;have HA2:=hid ha;clear ht ha hl;go_wp2_with fail;exact bodyPost_ret (v:=.bool true) (by simp [results,Tryz.results82,go_sem]) rfl ⟨by rw [HA2.out],HB.out⟩
theorem qQg (g:Nat) (p:MIm -> Bool) (ao:Option Addr) (n cap:Nat) (xs:List (MIm)) (w:World) (h:Rx w fun w=>RdG 3 (ImR) w ao n cap xs) (he:∀ args w,(callFunc g args).run Tryz.prog w=.ok (.enter g args) w)
    (HF:∀ w cs x,x ∈ xs -> (Rx w fun w=>ImR w cs x) -> Calls Tryz.prog g #[.agg cs.toArray] w fun e w'=>e=.returned (.bool (p x)) /\ Below w.heap.size w w') :
    Calls Tryz.prog 84 #[.slice ao n cap,.func (.func g) #[] #[]] w fun e w'=>e=.returned (.bool (xs.all p)) /\ Below w.heap.size w w':=by
 have hl:=h.now.len
 obtain ⟨h63,h63'⟩:=h.now.cap63
 have H:=hid h
 have Hl:=hid hl
 have HFF:=hid HF
 clear h HF
 go_enter Tryz.func84,Tryz.ntmps84
 go_wp2_with fail
 go_loopw [9] (fun i wr=>∃ k:Nat,k <= n /\ i=.int .i64 k /\ Hid ((xs.take k).all p=true) /\ Below w.heap.size w wr) (fun i _=>n - (intOf i).toNat)
 case atStart=>exact ⟨0,qXf _,rfl,by simp [Hid],qXh _ _⟩
 case round =>
  obtain ⟨k,hkn,rfl,HA,hb⟩:=hrel;have hsz:=hb.size;have HB:=hid hb;clear hb;by_cases hk:k < n
  ·obtain ⟨x,hx⟩:∃ x,xs[k]?=some x:=⟨xs[k]'(by omega),qW6 (by omega)⟩
   obtain ⟨b,off,cs,rfl,hcl,hR,hc⟩:=RdG.elem (H.out.below HB.out) hx;obtain ⟨y1,y2,y3⟩:=x;obtain rfl:=hR.now;have c0:=hc 0 _ rfl;rw [qXd] at c0;have c1:=hc 1 _ rfl;have c2:=hc 2 _ rfl;have HR:=hid hR;have hcut:=hid (qX p xs k _ hx HA.out);have HX:=hid (qXa hx);clear hc hR hx hcl hl;have hcall:=HFF.out (wr.alloc (.cells #[.string y1,.string y2,.int .i64 y3] 62)) _ _ HX.out (HR.out.alloc _)
   obtain ⟨px,hpx⟩:∃ px,p ⟨y1,y2,y3⟩=px:=⟨_,rfl⟩
   rw [hpx] at hcall;have HCALL:=hid hcall;have HPX:=hid hpx;clear hpx hcall;go_wp2_with fail;refine HCALL.out.mono ?_;rintro e w1 ⟨rfl,hb1⟩;have HB1:=hid (HB.out.trans ((Bl.step (Bl.alloc (Bl.refl wr) _) hb1).mono hsz));clear hb1 HCALL c0 c1 c2
   cases px with
   | true =>
     have HA2:=hid (hcut.out.2 HPX.out);clear hcut HPX HA;go_wp2_with fail;go_roundw
     case rel=>exact ⟨k + 1,by omega,by go_num,HA2.out,HB1.out⟩
     case measure=>simp [intOf];omega
   | false =>
     have HA2:=hid (hcut.out.1 HPX.out);clear hcut HPX HA;go_wp2_with fail;exact bodyPost_ret (v:=.bool false) (by simp [results,Tryz.results84,go_sem]) rfl ⟨by rw [HA2.out],HB1.out⟩
  ·have e0:k=n:=by omega
   subst e0;have ht:xs.take k=xs:=qW9 (by rw [Hl.out];exact qW8 _);have ha:=HA.out;rw [ht] at ha;have HA2:=hid ha;clear ht ha hl;go_wp2_with fail;exact bodyPost_ret (v:=.bool true) (by simp [results,Tryz.results84,go_sem]) rfl ⟨by rw [HA2.out],HB.out⟩
theorem qQh (g:Nat) (p:MGl -> Bool) (ao:Option Addr) (n cap:Nat) (xs:List (MGl)) (w:World) (h:Rx w fun w=>RdG 3 (GlR) w ao n cap xs) (he:∀ args w,(callFunc g args).run Tryz.prog w=.ok (.enter g args) w)
    (HF:∀ w cs x,x ∈ xs -> (Rx w fun w=>GlR w cs x) -> Calls Tryz.prog g #[.agg cs.toArray] w fun e w'=>e=.returned (.bool (p x)) /\ Below w.heap.size w w') :
    Calls Tryz.prog 89 #[.slice ao n cap,.func (.func g) #[] #[]] w fun e w'=>e=.returned (.bool (xs.all p)) /\ Below w.heap.size w w':=by
 have hl:=h.now.len
 obtain ⟨h63,h63'⟩:=h.now.cap63
 have H:=hid h
 have Hl:=hid hl
 have HFF:=hid HF
 clear h HF
 go_enter Tryz.func89,Tryz.ntmps89
 go_wp2_with fail
 go_loopw [9] (fun i wr=>∃ k:Nat,k <= n /\ i=.int .i64 k /\ Hid ((xs.take k).all p=true) /\ Below w.heap.size w wr) (fun i _=>n - (intOf i).toNat)
 case atStart=>exact ⟨0,qXf _,rfl,by simp [Hid],qXh _ _⟩
 case round =>
  obtain ⟨k,hkn,rfl,HA,hb⟩:=hrel;have hsz:=hb.size;have HB:=hid hb;clear hb;by_cases hk:k < n
  ·obtain ⟨x,hx⟩:∃ x,xs[k]?=some x:=⟨xs[k]'(by omega),qW6 (by omega)⟩
   obtain ⟨b,off,cs,rfl,hcl,hR,hc⟩:=RdG.elem (H.out.below HB.out) hx;obtain ⟨y1,y2,y3⟩:=x;obtain ⟨rfl,hy1,hy2⟩:=hR.now;have c0:=hc 0 _ rfl;rw [qXd] at c0;have c1:=hc 1 _ rfl;have c2:=hc 2 _ rfl;have HR:=hid hR;have hcut:=hid (qX p xs k _ hx HA.out);have HX:=hid (qXa hx);clear hc hR hx hcl hy1 hy2 hl;have hcall:=HFF.out (wr.alloc (.cells #[.bool y1,.int .i64 y2,.int .i64 y3] 58)) _ _ HX.out (HR.out.alloc _)
   obtain ⟨px,hpx⟩:∃ px,p ⟨y1,y2,y3⟩=px:=⟨_,rfl⟩
   rw [hpx] at hcall;have HCALL:=hid hcall;have HPX:=hid hpx;clear hpx hcall;go_wp2_with fail;refine HCALL.out.mono ?_;rintro e w1 ⟨rfl,hb1⟩;have HB1:=hid (HB.out.trans ((Bl.step (Bl.alloc (Bl.refl wr) _) hb1).mono hsz));clear hb1 HCALL c0 c1 c2
   cases px with
   | true =>
     have HA2:=hid (hcut.out.2 HPX.out);clear hcut HPX HA;go_wp2_with fail;go_roundw
     case rel=>exact ⟨k + 1,by omega,by go_num,HA2.out,HB1.out⟩
     case measure=>simp [intOf];omega
   | false =>
     have HA2:=hid (hcut.out.1 HPX.out);clear hcut HPX HA;go_wp2_with fail;exact bodyPost_ret (v:=.bool false) (by simp [results,Tryz.results89,go_sem]) rfl ⟨by rw [HA2.out],HB1.out⟩
  ·have e0:k=n:=by omega
   subst e0;have ht:xs.take k=xs:=qW9 (by rw [Hl.out];exact qW8 _);have ha:=HA.out;rw [ht] at ha;have HA2:=hid ha;clear ht ha hl;go_wp2_with fail;exact bodyPost_ret (v:=.bool true) (by simp [results,Tryz.results89,go_sem]) rfl ⟨by rw [HA2.out],HB.out⟩
theorem qQi (g:Nat) (p:MEx -> Bool) (ao:Option Addr) (n cap:Nat) (xs:List (MEx)) (w:World) (h:Rx w fun w=>RdG 2 (ExR) w ao n cap xs) (he:∀ args w,(callFunc g args).run Tryz.prog w=.ok (.enter g args) w)
    (HF:∀ w cs x,x ∈ xs -> (Rx w fun w=>ExR w cs x) -> Calls Tryz.prog g #[.agg cs.toArray] w fun e w'=>e=.returned (.bool (p x)) /\ Below w.heap.size w w') :
    Calls Tryz.prog 91 #[.slice ao n cap,.func (.func g) #[] #[]] w fun e w'=>e=.returned (.bool (xs.all p)) /\ Below w.heap.size w w':=by
 have hl:=h.now.len
 obtain ⟨h63,h63'⟩:=h.now.cap63
 have H:=hid h
 have Hl:=hid hl
 have HFF:=hid HF
 clear h HF
 go_enter Tryz.func91,Tryz.ntmps91
 go_wp2_with fail
 go_loopw [9] (fun i wr=>∃ k:Nat,k <= n /\ i=.int .i64 k /\ Hid ((xs.take k).all p=true) /\ Below w.heap.size w wr) (fun i _=>n - (intOf i).toNat)
 case atStart=>exact ⟨0,qXf _,rfl,by simp [Hid],qXh _ _⟩
 case round =>
  obtain ⟨k,hkn,rfl,HA,hb⟩:=hrel;have hsz:=hb.size;have HB:=hid hb;clear hb;by_cases hk:k < n
  ·obtain ⟨x,hx⟩:∃ x,xs[k]?=some x:=⟨xs[k]'(by omega),qW6 (by omega)⟩
   obtain ⟨b,off,cs,rfl,hcl,hR,hc⟩:=RdG.elem (H.out.below HB.out) hx;obtain ⟨y1,y2⟩:=x;obtain rfl:=hR.now;have c0:=hc 0 _ rfl;rw [qXd] at c0;have c1:=hc 1 _ rfl;have HR:=hid hR;have hcut:=hid (qX p xs k _ hx HA.out);have HX:=hid (qXa hx);clear hc hR hx hcl hl;have hcall:=HFF.out (wr.alloc (.cells #[.string y1,.int .i64 y2] 60)) _ _ HX.out (HR.out.alloc _)
   obtain ⟨px,hpx⟩:∃ px,p ⟨y1,y2⟩=px:=⟨_,rfl⟩
   rw [hpx] at hcall;have HCALL:=hid hcall;have HPX:=hid hpx;clear hpx hcall;go_wp2_with fail;refine HCALL.out.mono ?_;rintro e w1 ⟨rfl,hb1⟩;have HB1:=hid (HB.out.trans ((Bl.step (Bl.alloc (Bl.refl wr) _) hb1).mono hsz));clear hb1 HCALL c0 c1
   cases px with
   | true =>
     have HA2:=hid (hcut.out.2 HPX.out);clear hcut HPX HA;go_wp2_with fail;go_roundw
     case rel=>exact ⟨k + 1,by omega,by go_num,HA2.out,HB1.out⟩
     case measure=>simp [intOf];omega
   | false =>
     have HA2:=hid (hcut.out.1 HPX.out);clear hcut HPX HA;go_wp2_with fail;exact bodyPost_ret (v:=.bool false) (by simp [results,Tryz.results91,go_sem]) rfl ⟨by rw [HA2.out],HB1.out⟩
  ·have e0:k=n:=by omega
   subst e0;have ht:xs.take k=xs:=qW9 (by rw [Hl.out];exact qW8 _);have ha:=HA.out;rw [ht] at ha;have HA2:=hid ha;clear ht ha hl;go_wp2_with fail;exact bodyPost_ret (v:=.bool true) (by simp [results,Tryz.results91,go_sem]) rfl ⟨by rw [HA2.out],HB.out⟩
theorem qQj (g:Nat) (p:MEl -> Bool) (ao:Option Addr) (n cap:Nat) (xs:List (MEl)) (w:World) (h:Rx w fun w=>RdG 2 (ElR) w ao n cap xs) (he:∀ args w,(callFunc g args).run Tryz.prog w=.ok (.enter g args) w)
    (HF:∀ w cs x,x ∈ xs -> (Rx w fun w=>ElR w cs x) -> Calls Tryz.prog g #[.agg cs.toArray] w fun e w'=>e=.returned (.bool (p x)) /\ Below w.heap.size w w') :
    Calls Tryz.prog 93 #[.slice ao n cap,.func (.func g) #[] #[]] w fun e w'=>e=.returned (.bool (xs.all p)) /\ Below w.heap.size w w':=by
 have hl:=h.now.len
 obtain ⟨h63,h63'⟩:=h.now.cap63
 have H:=hid h
 have Hl:=hid hl
 have HFF:=hid HF
 clear h HF
 go_enter Tryz.func93,Tryz.ntmps93
 go_wp2_with fail
 go_loopw [9] (fun i wr=>∃ k:Nat,k <= n /\ i=.int .i64 k /\ Hid ((xs.take k).all p=true) /\ Below w.heap.size w wr) (fun i _=>n - (intOf i).toNat)
 case atStart=>exact ⟨0,qXf _,rfl,by simp [Hid],qXh _ _⟩
 case round =>
  obtain ⟨k,hkn,rfl,HA,hb⟩:=hrel;have hsz:=hb.size;have HB:=hid hb;clear hb;by_cases hk:k < n
  ·obtain ⟨x,hx⟩:∃ x,xs[k]?=some x:=⟨xs[k]'(by omega),qW6 (by omega)⟩
   obtain ⟨b,off,cs,rfl,hcl,hR,hc⟩:=RdG.elem (H.out.below HB.out) hx;obtain ⟨y1,y2⟩:=x;obtain ⟨a1,n1,k1,rfl,hr1⟩:=hR.now;have c0:=hc 0 _ rfl;rw [qXd] at c0;have c1:=hc 1 _ rfl;have HR:=hid hR;have hcut:=hid (qX p xs k _ hx HA.out);have HX:=hid (qXa hx);clear hc hR hx hcl hr1 hl;have hcall:=HFF.out (wr.alloc (.cells #[.int .i64 y1,.slice a1 n1 k1] 67)) _ _ HX.out (HR.out.alloc _)
   obtain ⟨px,hpx⟩:∃ px,p ⟨y1,y2⟩=px:=⟨_,rfl⟩
   rw [hpx] at hcall;have HCALL:=hid hcall;have HPX:=hid hpx;clear hpx hcall;go_wp2_with fail;refine HCALL.out.mono ?_;rintro e w1 ⟨rfl,hb1⟩;have HB1:=hid (HB.out.trans ((Bl.step (Bl.alloc (Bl.refl wr) _) hb1).mono hsz));clear hb1 HCALL c0 c1
   cases px with
   | true =>
     have HA2:=hid (hcut.out.2 HPX.out);clear hcut HPX HA;go_wp2_with fail;go_roundw
     case rel=>exact ⟨k + 1,by omega,by go_num,HA2.out,HB1.out⟩
     case measure=>simp [intOf];omega
   | false =>
     have HA2:=hid (hcut.out.1 HPX.out);clear hcut HPX HA;go_wp2_with fail;exact bodyPost_ret (v:=.bool false) (by simp [results,Tryz.results93,go_sem]) rfl ⟨by rw [HA2.out],HB1.out⟩
  ·have e0:k=n:=by omega
   subst e0;have ht:xs.take k=xs:=qW9 (by rw [Hl.out];exact qW8 _);have ha:=HA.out;rw [ht] at ha;have HA2:=hid ha;clear ht ha hl;go_wp2_with fail;exact bodyPost_ret (v:=.bool true) (by simp [results,Tryz.results93,go_sem]) rfl ⟨by rw [HA2.out],HB.out⟩
theorem qQk (g:Nat) (p:MCo -> Bool) (ao:Option Addr) (n cap:Nat) (xs:List (MCo)) (w:World) (h:Rx w fun w=>RdG 2 (CoR) w ao n cap xs) (he:∀ args w,(callFunc g args).run Tryz.prog w=.ok (.enter g args) w)
    (HF:∀ w cs x,x ∈ xs -> (Rx w fun w=>CoR w cs x) -> Calls Tryz.prog g #[.agg cs.toArray] w fun e w'=>e=.returned (.bool (p x)) /\ Below w.heap.size w w') :
    Calls Tryz.prog 95 #[.slice ao n cap,.func (.func g) #[] #[]] w fun e w'=>e=.returned (.bool (xs.all p)) /\ Below w.heap.size w w':=by
 have hl:=h.now.len
 obtain ⟨h63,h63'⟩:=h.now.cap63
 have H:=hid h
 have Hl:=hid hl
 have HFF:=hid HF
 clear h HF
 go_enter Tryz.func95,Tryz.ntmps95
 go_wp2_with fail
 go_loopw [9] (fun i wr=>∃ k:Nat,k <= n /\ i=.int .i64 k /\ Hid ((xs.take k).all p=true) /\ Below w.heap.size w wr) (fun i _=>n - (intOf i).toNat)
 case atStart=>exact ⟨0,qXf _,rfl,by simp [Hid],qXh _ _⟩
 case round =>
  obtain ⟨k,hkn,rfl,HA,hb⟩:=hrel;have hsz:=hb.size;have HB:=hid hb;clear hb;by_cases hk:k < n
  ·obtain ⟨x,hx⟩:∃ x,xs[k]?=some x:=⟨xs[k]'(by omega),qW6 (by omega)⟩
   obtain ⟨b,off,cs,rfl,hcl,hR,hc⟩:=RdG.elem (H.out.below HB.out) hx;obtain ⟨y1,y2⟩:=x;obtain ⟨a1,n1,k1,a2,n2,k2,rfl,hr1,hr2⟩:=hR.now;have c0:=hc 0 _ rfl;rw [qXd] at c0;have c1:=hc 1 _ rfl;have HR:=hid hR;have hcut:=hid (qX p xs k _ hx HA.out);have HX:=hid (qXa hx);clear hc hR hx hcl hr1 hr2 hl;have hcall:=HFF.out (wr.alloc (.cells #[.slice a1 n1 k1,.slice a2 n2 k2] 49)) _ _ HX.out (HR.out.alloc _)
   obtain ⟨px,hpx⟩:∃ px,p ⟨y1,y2⟩=px:=⟨_,rfl⟩
   rw [hpx] at hcall;have HCALL:=hid hcall;have HPX:=hid hpx;clear hpx hcall;go_wp2_with fail;refine HCALL.out.mono ?_;rintro e w1 ⟨rfl,hb1⟩;have HB1:=hid (HB.out.trans ((Bl.step (Bl.alloc (Bl.refl wr) _) hb1).mono hsz));clear hb1 HCALL c0 c1
   cases px with
   | true =>
     have HA2:=hid (hcut.out.2 HPX.out);clear hcut HPX HA;go_wp2_with fail;go_roundw
     case rel=>exact ⟨k + 1,by omega,by go_num,HA2.out,HB1.out⟩
     case measure=>simp [intOf];omega
   | false =>
     have HA2:=hid (hcut.out.1 HPX.out);clear hcut HPX HA;go_wp2_with fail;exact bodyPost_ret (v:=.bool false) (by simp [results,Tryz.results95,go_sem]) rfl ⟨by rw [HA2.out],HB1.out⟩
  ·have e0:k=n:=by omega
   subst e0;have ht:xs.take k=xs:=qW9 (by rw [Hl.out];exact qW8 _);have ha:=HA.out;rw [ht] at ha;have HA2:=hid ha;clear ht ha hl;go_wp2_with fail;exact bodyPost_ret (v:=.bool true) (by simp [results,Tryz.results95,go_sem]) rfl ⟨by rw [HA2.out],HB.out⟩
theorem qQl (g:Nat) (p:MDa -> Bool) (ao:Option Addr) (n cap:Nat) (xs:List (MDa)) (w:World) (h:Rx w fun w=>RdG 2 (DaR) w ao n cap xs) (he:∀ args w,(callFunc g args).run Tryz.prog w=.ok (.enter g args) w)
    (HF:∀ w cs x,x ∈ xs -> (Rx w fun w=>DaR w cs x) -> Calls Tryz.prog g #[.agg cs.toArray] w fun e w'=>e=.returned (.bool (p x)) /\ Below w.heap.size w w') :
    Calls Tryz.prog 97 #[.slice ao n cap,.func (.func g) #[] #[]] w fun e w'=>e=.returned (.bool (xs.all p)) /\ Below w.heap.size w w':=by
 have hl:=h.now.len
 obtain ⟨h63,h63'⟩:=h.now.cap63
 have H:=hid h
 have Hl:=hid hl
 have HFF:=hid HF
 clear h HF
 go_enter Tryz.func97,Tryz.ntmps97
 go_wp2_with fail
 go_loopw [9] (fun i wr=>∃ k:Nat,k <= n /\ i=.int .i64 k /\ Hid ((xs.take k).all p=true) /\ Below w.heap.size w wr) (fun i _=>n - (intOf i).toNat)
 case atStart=>exact ⟨0,qXf _,rfl,by simp [Hid],qXh _ _⟩
 case round =>
  obtain ⟨k,hkn,rfl,HA,hb⟩:=hrel;have hsz:=hb.size;have HB:=hid hb;clear hb;by_cases hk:k < n
  ·obtain ⟨x,hx⟩:∃ x,xs[k]?=some x:=⟨xs[k]'(by omega),qW6 (by omega)⟩
   obtain ⟨b,off,cs,rfl,hcl,hR,hc⟩:=RdG.elem (H.out.below HB.out) hx;obtain ⟨y1,y2⟩:=x;obtain ⟨a1,n1,k1,rfl,hr1⟩:=hR.now;have c0:=hc 0 _ rfl;rw [qXd] at c0;have c1:=hc 1 _ rfl;have HR:=hid hR;have hcut:=hid (qX p xs k _ hx HA.out);have HX:=hid (qXa hx);clear hc hR hx hcl hr1 hl;have hcall:=HFF.out (wr.alloc (.cells #[.int .i64 y1,.slice a1 n1 k1] 44)) _ _ HX.out (HR.out.alloc _)
   obtain ⟨px,hpx⟩:∃ px,p ⟨y1,y2⟩=px:=⟨_,rfl⟩
   rw [hpx] at hcall;have HCALL:=hid hcall;have HPX:=hid hpx;clear hpx hcall;go_wp2_with fail;refine HCALL.out.mono ?_;rintro e w1 ⟨rfl,hb1⟩;have HB1:=hid (HB.out.trans ((Bl.step (Bl.alloc (Bl.refl wr) _) hb1).mono hsz));clear hb1 HCALL c0 c1
   cases px with
   | true =>
     have HA2:=hid (hcut.out.2 HPX.out);clear hcut HPX HA;go_wp2_with fail;go_roundw
     case rel=>exact ⟨k + 1,by omega,by go_num,HA2.out,HB1.out⟩
     case measure=>simp [intOf];omega
   | false =>
     have HA2:=hid (hcut.out.1 HPX.out);clear hcut HPX HA;go_wp2_with fail;exact bodyPost_ret (v:=.bool false) (by simp [results,Tryz.results97,go_sem]) rfl ⟨by rw [HA2.out],HB1.out⟩
  ·have e0:k=n:=by omega
   subst e0;have ht:xs.take k=xs:=qW9 (by rw [Hl.out];exact qW8 _);have ha:=HA.out;rw [ht] at ha;have HA2:=hid ha;clear ht ha hl;go_wp2_with fail;exact bodyPost_ret (v:=.bool true) (by simp [results,Tryz.results97,go_sem]) rfl ⟨by rw [HA2.out],HB.out⟩
theorem qQm (g:Nat) (p:Ins -> Bool) (ao:Option Addr) (n cap:Nat) (xs:List (Ins)) (w:World) (h:Rx w fun w=>RdG 4 (InR) w ao n cap xs) (he:∀ args w,(callFunc g args).run Tryz.prog w=.ok (.enter g args) w)
    (HF:∀ w cs x,x ∈ xs -> (Rx w fun w=>InR w cs x) -> Calls Tryz.prog g #[.agg cs.toArray] w fun e w'=>e=.returned (.bool (p x)) /\ Below w.heap.size w w') :
    Calls Tryz.prog 185 #[.slice ao n cap,.func (.func g) #[] #[]] w fun e w'=>e=.returned (.bool (xs.all p)) /\ Below w.heap.size w w':=by
 have hl:=h.now.len
 obtain ⟨h63,h63'⟩:=h.now.cap63
 have H:=hid h
 have Hl:=hid hl
 have HFF:=hid HF
 clear h HF
 go_enter Tryz.func185,Tryz.ntmps185
 go_wp2_with fail
 go_loopw [9] (fun i wr=>∃ k:Nat,k <= n /\ i=.int .i64 k /\ Hid ((xs.take k).all p=true) /\ Below w.heap.size w wr) (fun i _=>n - (intOf i).toNat)
 case atStart=>exact ⟨0,qXf _,rfl,by simp [Hid],qXh _ _⟩
 case round =>
  obtain ⟨k,hkn,rfl,HA,hb⟩:=hrel;have hsz:=hb.size;have HB:=hid hb;clear hb;by_cases hk:k < n
  ·obtain ⟨x,hx⟩:∃ x,xs[k]?=some x:=⟨xs[k]'(by omega),qW6 (by omega)⟩
   obtain ⟨b,off,cs,rfl,hcl,hR,hc⟩:=RdG.elem (H.out.below HB.out) hx;obtain ⟨y1,y2,y3,y4⟩:=x;obtain ⟨a1,n1,k1,rfl,hr1,hok⟩:=hR.now;have c0:=hc 0 _ rfl;rw [qXd] at c0;have c1:=hc 1 _ rfl;have c2:=hc 2 _ rfl;have c3:=hc 3 _ rfl;have HR:=hid hR;have hcut:=hid (qX p xs k _ hx HA.out);have HX:=hid (qXa hx);clear hc hR hx hcl hr1 hok hl;have hcall:=HFF.out (wr.alloc (.cells #[.int .i64 y1,.int .i64 y2,.int .i64 y3,.slice a1 n1 k1] 51)) _ _ HX.out (HR.out.alloc _)
   obtain ⟨px,hpx⟩:∃ px,p ⟨y1,y2,y3,y4⟩=px:=⟨_,rfl⟩
   rw [hpx] at hcall;have HCALL:=hid hcall;have HPX:=hid hpx;clear hpx hcall;go_wp2_with fail;refine HCALL.out.mono ?_;rintro e w1 ⟨rfl,hb1⟩;have HB1:=hid (HB.out.trans ((Bl.step (Bl.alloc (Bl.refl wr) _) hb1).mono hsz));clear hb1 HCALL c0 c1 c2 c3
   cases px with
   | true =>
     have HA2:=hid (hcut.out.2 HPX.out);clear hcut HPX HA;go_wp2_with fail;go_roundw
     case rel=>exact ⟨k + 1,by omega,by go_num,HA2.out,HB1.out⟩
     case measure=>simp [intOf];omega
   | false =>
     have HA2:=hid (hcut.out.1 HPX.out);clear hcut HPX HA;go_wp2_with fail;exact bodyPost_ret (v:=.bool false) (by simp [results,Tryz.results185,go_sem]) rfl ⟨by rw [HA2.out],HB1.out⟩
  ·have e0:k=n:=by omega
   subst e0;have ht:xs.take k=xs:=qW9 (by rw [Hl.out];exact qW8 _);have ha:=HA.out;rw [ht] at ha;have HA2:=hid ha;clear ht ha hl;go_wp2_with fail;exact bodyPost_ret (v:=.bool true) (by simp [results,Tryz.results185,go_sem]) rfl ⟨by rw [HA2.out],HB.out⟩
open Go.RowKit
theorem qS (n:Int) (w:World) (h0:0 <= n) (h1:n <= 9223372036854775807):Calls Tryz.prog 67 #[.int .i64 n] w fun e w'=>∃ v,e=.returned v /\ Own 5 .u8 w.heap.size w' v (jG n) /\ Below w.heap.size w w':=by
 go_enter Tryz.func67,Tryz.ntmps67;go_wp2_with fail;refine (qJw none 0 0 [] n _ (Rd.empty _ _) (by omega) h0 (by omega)).mono ?_;rintro e w' ⟨v,rfl,hv,hb⟩;go_wp2_with fail;go_ret;exact ⟨_,rfl,by simpa [jG] using hv,hb⟩
theorem qM {α:Type} (f:α -> List Int):∀ (l:List α) (m:Nat),(∀ x ∈ l,(f x).length <= m) -> (l.flatMap f).length <= l.length * m
 | [],_,_=>by simp
 | x :: r,m,h=>by
   have h1:=h x (by simp);have h2:=qM f r m (fun y hy=>h y (by simp [hy]));rw [List.flatMap_cons,qW7,qXg,Nat.add_mul];omega
theorem jI {α:Type} (f:α -> List Int) (xs:List α) (k:Nat) (x:α) (hx:xs[k]?=some x):(xs.take (k + 1)).flatMap f=(xs.take k).flatMap f ++ f x:=by
 rw [qXy,List.flatMap_append,hx];simp
theorem qH6 (g:Nat) (f:Int -> List Int) (ao:Option Addr) (n cap:Nat) (xs:List (Int)) (w:World) (h:Rx w fun w=>RdG 1 (IR .i64) w ao n cap xs) (he:∀ args w,(callFunc g args).run Tryz.prog w=.ok (.enter g args) w) (hn:n <= 1000)
    (hf:∀ x ∈ xs,(f x).length <= 100000000)
    (HF:∀ w cs x,x ∈ xs -> (Rx w fun w=>IR .i64 w cs x) -> Calls Tryz.prog g #[(cs.getD 0 undef)] w fun e w'=>∃ v,e=.returned v /\ Own 5 .u8 w.heap.size w' v (f x) /\ Below w.heap.size w w') :
    Calls Tryz.prog 133 #[.slice ao n cap,.func (.func g) #[] #[]] w fun e w'=>∃ v,e=.returned v /\ Own 5 .u8 w.heap.size w' v (qT f xs) /\ Below w.heap.size w w':=by
 have hl:=h.now.len
 obtain ⟨h63,h63'⟩:=h.now.cap63
 have H:=hid h
 have Hl:=hid hl
 have HFF:=hid HF
 have HLE:=hid hf
 clear h HF hf
 go_enter Tryz.func133,Tryz.ntmps133
 go_wp2_with fail
 refine (qS (n:Int) w (by omega) (by omega)).mono ?_
 rintro e w0 ⟨v0,rfl,hv0,hb0⟩
 have HV0:=hid hv0
 have HB0:=hid hb0
 clear hv0 hb0
 go_wp2_with fail
 go_loopw [5,7,13] (fun v _ i wr=>∃ k:Nat,k <= n /\ i=.int .i64 k /\ Own 5 .u8 w.heap.size wr v (qZ 9 (n:Int) ++ (xs.take k).flatMap f) /\ Below w.heap.size w wr) (fun _ _ i _=>n - (intOf i).toNat)
 case atStart=>exact ⟨0,qXf _,rfl,by simpa [jG] using HV0.out,HB0.out⟩
 case round =>
  obtain ⟨k,hkn,rfl,hv,hb⟩:=hrel;have hsz:=hb.size;have HB:=hid hb;have HV:=hid hv;clear hb hv HV0 HB0;by_cases hk:k < n
  ·obtain ⟨x,hx⟩:∃ x,xs[k]?=some x:=⟨xs[k]'(by omega),qW6 (by omega)⟩
   have hlen:(qZ 9 (n:Int) ++ (xs.take k).flatMap f).length <= 100000000100:=by
    have h1:=qE 9 (n:Int);have h2:=qM f (xs.take k) 100000000 (fun y hy=>HLE.out y (qXs hy));have h3:(xs.take k).length <= k:=List.length_take_le _ _;have h4:(xs.take k).length * 100000000 <= 1000 * 100000000:=qXl _ (by omega);simp only [qW7];omega
   have hsn:=jI f xs k x hx;have hfx:=HLE.out _ (qXa hx);obtain ⟨b,off,cs,rfl,hcl,hR,hc⟩:=RdG.elem (H.out.below HB.out) hx;skip;obtain ⟨rfl,hw⟩:=hR.now;have c0:=hc 0 _ rfl;rw [qXd] at c0;rw [Nat.mul_one] at c0;have HR:=hid hR;have HX:=hid (qXa hx);clear hc hR hx hcl hw hl
   obtain ⟨ys,hys⟩:∃ ys,ys=qZ 9 (n:Int) ++ (xs.take k).flatMap f:=⟨_,rfl⟩
   rw [<- hys] at HV hlen
   obtain ⟨zs,hzs⟩:∃ zs,zs=f x:=⟨_,rfl⟩
   have hcall:=HFF.out wr _ _ HX.out HR.out;rw [<- hzs] at hcall hfx hsn;have HCALL:=hid hcall;have HYS:=hid hys;have HSN:=hid hsn;clear hcall hys hzs hsn;go_wp2_with fail;refine HCALL.out.mono ?_;rintro e w1 ⟨v1,rfl,hv1,hb1⟩;obtain ⟨ao1,cap1,rfl,hr1⟩:=hv1.rd;have hbb:=hb1;have HB1:=hid (HB.out.trans (hbb.mono hsz));have HV1:=hid (HV.out.below hbb (qW8 _));have HR1:=hid hr1;have hsz1:=HB1.out.size
   obtain ⟨m1,hm1⟩:∃ m1,m1=zs.length:=⟨_,rfl⟩
   rw [<- hm1] at HR1 hfx ⊢;clear hv1 hb1 hr1 hbb hm1 HCALL HV HB c0
   go_wp2_with (at_builtin;refine qA rfl (.tmp 17) (.tmp 20) 37 rfl 5 .u8 w.heap.size 1 Tryz.underlying37 qG _ ys rfl HV1.out ao1 _ cap1 zs rfl HR1.out (by omega) (by omega) hsz1 ?_;intro v2 w2 h3 h4 _)
   go_roundw
   case rel =>
    refine ⟨k + 1,by omega,by go_num,?_,HB1.out.trans h4⟩;rw [HSN.out,<- qXe,<- HYS.out];exact h3
   case measure=>simp [intOf];omega
  ·have e0:k=n:=by omega
   subst e0;have ht:xs.take k=xs:=qW9 (by rw [Hl.out];exact qW8 _);have ha:=HV.out;rw [ht] at ha;have HA2:=hid ha;clear ht ha hl;go_wp2_with fail;refine bodyPost_ret (v:=u5) (by simp [results,Tryz.results133,go_sem]) rfl ⟨_,rfl,?_,HB.out⟩;unfold qT;rw [Hl.out];exact HA2.out
theorem qQn (g:Nat) (f:MTy -> List Int) (ao:Option Addr) (n cap:Nat) (xs:List (MTy)) (w:World) (h:Rx w fun w=>RdG 2 (TyR) w ao n cap xs) (he:∀ args w,(callFunc g args).run Tryz.prog w=.ok (.enter g args) w) (hn:n <= 1000)
    (hf:∀ x ∈ xs,(f x).length <= 100000000)
    (HF:∀ w cs x,x ∈ xs -> (Rx w fun w=>TyR w cs x) -> Calls Tryz.prog g #[.agg cs.toArray] w fun e w'=>∃ v,e=.returned v /\ Own 5 .u8 w.heap.size w' v (f x) /\ Below w.heap.size w w') :
    Calls Tryz.prog 132 #[.slice ao n cap,.func (.func g) #[] #[]] w fun e w'=>∃ v,e=.returned v /\ Own 5 .u8 w.heap.size w' v (qT f xs) /\ Below w.heap.size w w':=by
 have hl:=h.now.len
 obtain ⟨h63,h63'⟩:=h.now.cap63
 have H:=hid h
 have Hl:=hid hl
 have HFF:=hid HF
 have HLE:=hid hf
 clear h HF hf
 go_enter Tryz.func132,Tryz.ntmps132
 go_wp2_with fail
 refine (qS (n:Int) w (by omega) (by omega)).mono ?_
 rintro e w0 ⟨v0,rfl,hv0,hb0⟩
 have HV0:=hid hv0
 have HB0:=hid hb0
 clear hv0 hb0
 go_wp2_with fail
 go_loopw [5,13] (fun v i wr=>∃ k:Nat,k <= n /\ i=.int .i64 k /\ Own 5 .u8 w.heap.size wr v (qZ 9 (n:Int) ++ (xs.take k).flatMap f) /\ Below w.heap.size w wr) (fun _ i _=>n - (intOf i).toNat)
 case atStart=>exact ⟨0,qXf _,rfl,by simpa [jG] using HV0.out,HB0.out⟩
 case round =>
  obtain ⟨k,hkn,rfl,hv,hb⟩:=hrel;have hsz:=hb.size;have HB:=hid hb;have HV:=hid hv;clear hb hv HV0 HB0;by_cases hk:k < n
  ·obtain ⟨x,hx⟩:∃ x,xs[k]?=some x:=⟨xs[k]'(by omega),qW6 (by omega)⟩
   have hlen:(qZ 9 (n:Int) ++ (xs.take k).flatMap f).length <= 100000000100:=by
    have h1:=qE 9 (n:Int);have h2:=qM f (xs.take k) 100000000 (fun y hy=>HLE.out y (qXs hy));have h3:(xs.take k).length <= k:=List.length_take_le _ _;have h4:(xs.take k).length * 100000000 <= 1000 * 100000000:=qXl _ (by omega);simp only [qW7];omega
   have hsn:=jI f xs k x hx;have hfx:=HLE.out _ (qXa hx);obtain ⟨b,off,cs,rfl,hcl,hR,hc⟩:=RdG.elem (H.out.below HB.out) hx;obtain ⟨y1,y2⟩:=x;obtain ⟨a1,n1,k1,a2,n2,k2,rfl,hr1,hr2⟩:=hR.now;have c0:=hc 0 _ rfl;rw [qXd] at c0;have c1:=hc 1 _ rfl;have HR:=hid hR;have HX:=hid (qXa hx);clear hc hR hx hcl hr1 hr2 hl
   obtain ⟨ys,hys⟩:∃ ys,ys=qZ 9 (n:Int) ++ (xs.take k).flatMap f:=⟨_,rfl⟩
   rw [<- hys] at HV hlen
   obtain ⟨zs,hzs⟩:∃ zs,zs=f ⟨y1,y2⟩:=⟨_,rfl⟩
   have hcall:=HFF.out (wr.alloc (.cells #[.slice a1 n1 k1,.slice a2 n2 k2] 53)) _ _ HX.out (HR.out.alloc _);rw [<- hzs] at hcall hfx hsn;have HCALL:=hid hcall;have HYS:=hid hys;have HSN:=hid hsn;clear hcall hys hzs hsn;go_wp2_with fail;refine HCALL.out.mono ?_;rintro e w1 ⟨v1,rfl,hv1,hb1⟩;obtain ⟨ao1,cap1,rfl,hr1⟩:=hv1.rd
   have hbb:=(Bl.step (Bl.alloc (Bl.refl wr) _) hb1)
   have HB1:=hid (HB.out.trans (hbb.mono hsz));have HV1:=hid (HV.out.below hbb (qW8 _));have HR1:=hid hr1;have hsz1:=HB1.out.size
   obtain ⟨m1,hm1⟩:∃ m1,m1=zs.length:=⟨_,rfl⟩
   rw [<- hm1] at HR1 hfx ⊢;clear hv1 hb1 hr1 hbb hm1 HCALL HV HB c0 c1
   go_wp2_with (at_builtin;refine qA rfl (.tmp 17) (.tmp 20) 37 rfl 5 .u8 w.heap.size 1 Tryz.underlying37 qG _ ys rfl HV1.out ao1 _ cap1 zs rfl HR1.out (by omega) (by omega) hsz1 ?_;intro v2 w2 h3 h4 _)
   go_roundw
   case rel =>
    refine ⟨k + 1,by omega,by go_num,?_,HB1.out.trans h4⟩;rw [HSN.out,<- qXe,<- HYS.out];exact h3
   case measure=>simp [intOf];omega
  ·have e0:k=n:=by omega
   subst e0;have ht:xs.take k=xs:=qW9 (by rw [Hl.out];exact qW8 _);have ha:=HV.out;rw [ht] at ha;have HA2:=hid ha;clear ht ha hl;go_wp2_with fail;refine bodyPost_ret (v:=u5) (by simp [results,Tryz.results132,go_sem]) rfl ⟨_,rfl,?_,HB.out⟩;unfold qT;rw [Hl.out];exact HA2.out
theorem qQo (g:Nat) (f:MIm -> List Int) (ao:Option Addr) (n cap:Nat) (xs:List (MIm)) (w:World) (h:Rx w fun w=>RdG 3 (ImR) w ao n cap xs) (he:∀ args w,(callFunc g args).run Tryz.prog w=.ok (.enter g args) w) (hn:n <= 1000)
    (hf:∀ x ∈ xs,(f x).length <= 100000000)
    (HF:∀ w cs x,x ∈ xs -> (Rx w fun w=>ImR w cs x) -> Calls Tryz.prog g #[.agg cs.toArray] w fun e w'=>∃ v,e=.returned v /\ Own 5 .u8 w.heap.size w' v (f x) /\ Below w.heap.size w w') :
    Calls Tryz.prog 135 #[.slice ao n cap,.func (.func g) #[] #[]] w fun e w'=>∃ v,e=.returned v /\ Own 5 .u8 w.heap.size w' v (qT f xs) /\ Below w.heap.size w w':=by
 have hl:=h.now.len
 obtain ⟨h63,h63'⟩:=h.now.cap63
 have H:=hid h
 have Hl:=hid hl
 have HFF:=hid HF
 have HLE:=hid hf
 clear h HF hf
 go_enter Tryz.func135,Tryz.ntmps135
 go_wp2_with fail
 refine (qS (n:Int) w (by omega) (by omega)).mono ?_
 rintro e w0 ⟨v0,rfl,hv0,hb0⟩
 have HV0:=hid hv0
 have HB0:=hid hb0
 clear hv0 hb0
 go_wp2_with fail
 go_loopw [5,13] (fun v i wr=>∃ k:Nat,k <= n /\ i=.int .i64 k /\ Own 5 .u8 w.heap.size wr v (qZ 9 (n:Int) ++ (xs.take k).flatMap f) /\ Below w.heap.size w wr) (fun _ i _=>n - (intOf i).toNat)
 case atStart=>exact ⟨0,qXf _,rfl,by simpa [jG] using HV0.out,HB0.out⟩
 case round =>
  obtain ⟨k,hkn,rfl,hv,hb⟩:=hrel;have hsz:=hb.size;have HB:=hid hb;have HV:=hid hv;clear hb hv HV0 HB0;by_cases hk:k < n
  ·obtain ⟨x,hx⟩:∃ x,xs[k]?=some x:=⟨xs[k]'(by omega),qW6 (by omega)⟩
   have hlen:(qZ 9 (n:Int) ++ (xs.take k).flatMap f).length <= 100000000100:=by
    have h1:=qE 9 (n:Int);have h2:=qM f (xs.take k) 100000000 (fun y hy=>HLE.out y (qXs hy));have h3:(xs.take k).length <= k:=List.length_take_le _ _;have h4:(xs.take k).length * 100000000 <= 1000 * 100000000:=qXl _ (by omega);simp only [qW7];omega
   have hsn:=jI f xs k x hx;have hfx:=HLE.out _ (qXa hx);obtain ⟨b,off,cs,rfl,hcl,hR,hc⟩:=RdG.elem (H.out.below HB.out) hx;obtain ⟨y1,y2,y3⟩:=x;obtain rfl:=hR.now;have c0:=hc 0 _ rfl;rw [qXd] at c0;have c1:=hc 1 _ rfl;have c2:=hc 2 _ rfl;have HR:=hid hR;have HX:=hid (qXa hx);clear hc hR hx hcl hl
   obtain ⟨ys,hys⟩:∃ ys,ys=qZ 9 (n:Int) ++ (xs.take k).flatMap f:=⟨_,rfl⟩
   rw [<- hys] at HV hlen
   obtain ⟨zs,hzs⟩:∃ zs,zs=f ⟨y1,y2,y3⟩:=⟨_,rfl⟩
   have hcall:=HFF.out (wr.alloc (.cells #[.string y1,.string y2,.int .i64 y3] 62)) _ _ HX.out (HR.out.alloc _);rw [<- hzs] at hcall hfx hsn;have HCALL:=hid hcall;have HYS:=hid hys;have HSN:=hid hsn;clear hcall hys hzs hsn;go_wp2_with fail;refine HCALL.out.mono ?_;rintro e w1 ⟨v1,rfl,hv1,hb1⟩;obtain ⟨ao1,cap1,rfl,hr1⟩:=hv1.rd
   have hbb:=(Bl.step (Bl.alloc (Bl.refl wr) _) hb1)
   have HB1:=hid (HB.out.trans (hbb.mono hsz));have HV1:=hid (HV.out.below hbb (qW8 _));have HR1:=hid hr1;have hsz1:=HB1.out.size
   obtain ⟨m1,hm1⟩:∃ m1,m1=zs.length:=⟨_,rfl⟩
   rw [<- hm1] at HR1 hfx ⊢;clear hv1 hb1 hr1 hbb hm1 HCALL HV HB c0 c1 c2
   go_wp2_with (at_builtin;refine qA rfl (.tmp 17) (.tmp 20) 37 rfl 5 .u8 w.heap.size 1 Tryz.underlying37 qG _ ys rfl HV1.out ao1 _ cap1 zs rfl HR1.out (by omega) (by omega) hsz1 ?_;intro v2 w2 h3 h4 _)
   go_roundw
   case rel =>
    refine ⟨k + 1,by omega,by go_num,?_,HB1.out.trans h4⟩;rw [HSN.out,<- qXe,<- HYS.out];exact h3
   case measure=>simp [intOf];omega
  ·have e0:k=n:=by omega
   subst e0;have ht:xs.take k=xs:=qW9 (by rw [Hl.out];exact qW8 _);have ha:=HV.out;rw [ht] at ha;have HA2:=hid ha;clear ht ha hl;go_wp2_with fail;refine bodyPost_ret (v:=u5) (by simp [results,Tryz.results135,go_sem]) rfl ⟨_,rfl,?_,HB.out⟩;unfold qT;rw [Hl.out];exact HA2.out
theorem qQp (g:Nat) (f:MLi -> List Int) (ao:Option Addr) (n cap:Nat) (xs:List (MLi)) (w:World) (h:Rx w fun w=>RdG 3 (LiR) w ao n cap xs) (he:∀ args w,(callFunc g args).run Tryz.prog w=.ok (.enter g args) w) (hn:n <= 1000)
    (hf:∀ x ∈ xs,(f x).length <= 100000000)
    (HF:∀ w cs x,x ∈ xs -> (Rx w fun w=>LiR w cs x) -> Calls Tryz.prog g #[.agg cs.toArray] w fun e w'=>∃ v,e=.returned v /\ Own 5 .u8 w.heap.size w' v (f x) /\ Below w.heap.size w w') :
    Calls Tryz.prog 138 #[.slice ao n cap,.func (.func g) #[] #[]] w fun e w'=>∃ v,e=.returned v /\ Own 5 .u8 w.heap.size w' v (qT f xs) /\ Below w.heap.size w w':=by
 have hl:=h.now.len
 obtain ⟨h63,h63'⟩:=h.now.cap63
 have H:=hid h
 have Hl:=hid hl
 have HFF:=hid HF
 have HLE:=hid hf
 clear h HF hf
 go_enter Tryz.func138,Tryz.ntmps138
 go_wp2_with fail
 refine (qS (n:Int) w (by omega) (by omega)).mono ?_
 rintro e w0 ⟨v0,rfl,hv0,hb0⟩
 have HV0:=hid hv0
 have HB0:=hid hb0
 clear hv0 hb0
 go_wp2_with fail
 go_loopw [5,13] (fun v i wr=>∃ k:Nat,k <= n /\ i=.int .i64 k /\ Own 5 .u8 w.heap.size wr v (qZ 9 (n:Int) ++ (xs.take k).flatMap f) /\ Below w.heap.size w wr) (fun _ i _=>n - (intOf i).toNat)
 case atStart=>exact ⟨0,qXf _,rfl,by simpa [jG] using HV0.out,HB0.out⟩
 case round =>
  obtain ⟨k,hkn,rfl,hv,hb⟩:=hrel;have hsz:=hb.size;have HB:=hid hb;have HV:=hid hv;clear hb hv HV0 HB0;by_cases hk:k < n
  ·obtain ⟨x,hx⟩:∃ x,xs[k]?=some x:=⟨xs[k]'(by omega),qW6 (by omega)⟩
   have hlen:(qZ 9 (n:Int) ++ (xs.take k).flatMap f).length <= 100000000100:=by
    have h1:=qE 9 (n:Int);have h2:=qM f (xs.take k) 100000000 (fun y hy=>HLE.out y (qXs hy));have h3:(xs.take k).length <= k:=List.length_take_le _ _;have h4:(xs.take k).length * 100000000 <= 1000 * 100000000:=qXl _ (by omega);simp only [qW7];omega
   have hsn:=jI f xs k x hx;have hfx:=HLE.out _ (qXa hx);obtain ⟨b,off,cs,rfl,hcl,hR,hc⟩:=RdG.elem (H.out.below HB.out) hx;obtain ⟨y1,y2,y3⟩:=x;obtain rfl:=hR.now;have c0:=hc 0 _ rfl;rw [qXd] at c0;have c1:=hc 1 _ rfl;have c2:=hc 2 _ rfl;have HR:=hid hR;have HX:=hid (qXa hx);clear hc hR hx hcl hl
   obtain ⟨ys,hys⟩:∃ ys,ys=qZ 9 (n:Int) ++ (xs.take k).flatMap f:=⟨_,rfl⟩
   rw [<- hys] at HV hlen
   obtain ⟨zs,hzs⟩:∃ zs,zs=f ⟨y1,y2,y3⟩:=⟨_,rfl⟩
   have hcall:=HFF.out (wr.alloc (.cells #[.bool y1,.int .i64 y2,.int .i64 y3] 26)) _ _ HX.out (HR.out.alloc _);rw [<- hzs] at hcall hfx hsn;have HCALL:=hid hcall;have HYS:=hid hys;have HSN:=hid hsn;clear hcall hys hzs hsn;go_wp2_with fail;refine HCALL.out.mono ?_;rintro e w1 ⟨v1,rfl,hv1,hb1⟩;obtain ⟨ao1,cap1,rfl,hr1⟩:=hv1.rd
   have hbb:=(Bl.step (Bl.alloc (Bl.refl wr) _) hb1)
   have HB1:=hid (HB.out.trans (hbb.mono hsz));have HV1:=hid (HV.out.below hbb (qW8 _));have HR1:=hid hr1;have hsz1:=HB1.out.size
   obtain ⟨m1,hm1⟩:∃ m1,m1=zs.length:=⟨_,rfl⟩
   rw [<- hm1] at HR1 hfx ⊢;clear hv1 hb1 hr1 hbb hm1 HCALL HV HB c0 c1 c2
   go_wp2_with (at_builtin;refine qA rfl (.tmp 17) (.tmp 20) 37 rfl 5 .u8 w.heap.size 1 Tryz.underlying37 qG _ ys rfl HV1.out ao1 _ cap1 zs rfl HR1.out (by omega) (by omega) hsz1 ?_;intro v2 w2 h3 h4 _)
   go_roundw
   case rel =>
    refine ⟨k + 1,by omega,by go_num,?_,HB1.out.trans h4⟩;rw [HSN.out,<- qXe,<- HYS.out];exact h3
   case measure=>simp [intOf];omega
  ·have e0:k=n:=by omega
   subst e0;have ht:xs.take k=xs:=qW9 (by rw [Hl.out];exact qW8 _);have ha:=HV.out;rw [ht] at ha;have HA2:=hid ha;clear ht ha hl;go_wp2_with fail;refine bodyPost_ret (v:=u5) (by simp [results,Tryz.results138,go_sem]) rfl ⟨_,rfl,?_,HB.out⟩;unfold qT;rw [Hl.out];exact HA2.out
theorem qQq (g:Nat) (f:MGl -> List Int) (ao:Option Addr) (n cap:Nat) (xs:List (MGl)) (w:World) (h:Rx w fun w=>RdG 3 (GlR) w ao n cap xs) (he:∀ args w,(callFunc g args).run Tryz.prog w=.ok (.enter g args) w) (hn:n <= 1000)
    (hf:∀ x ∈ xs,(f x).length <= 100000000)
    (HF:∀ w cs x,x ∈ xs -> (Rx w fun w=>GlR w cs x) -> Calls Tryz.prog g #[.agg cs.toArray] w fun e w'=>∃ v,e=.returned v /\ Own 5 .u8 w.heap.size w' v (f x) /\ Below w.heap.size w w') :
    Calls Tryz.prog 139 #[.slice ao n cap,.func (.func g) #[] #[]] w fun e w'=>∃ v,e=.returned v /\ Own 5 .u8 w.heap.size w' v (qT f xs) /\ Below w.heap.size w w':=by
 have hl:=h.now.len
 obtain ⟨h63,h63'⟩:=h.now.cap63
 have H:=hid h
 have Hl:=hid hl
 have HFF:=hid HF
 have HLE:=hid hf
 clear h HF hf
 go_enter Tryz.func139,Tryz.ntmps139
 go_wp2_with fail
 refine (qS (n:Int) w (by omega) (by omega)).mono ?_
 rintro e w0 ⟨v0,rfl,hv0,hb0⟩
 have HV0:=hid hv0
 have HB0:=hid hb0
 clear hv0 hb0
 go_wp2_with fail
 go_loopw [5,13] (fun v i wr=>∃ k:Nat,k <= n /\ i=.int .i64 k /\ Own 5 .u8 w.heap.size wr v (qZ 9 (n:Int) ++ (xs.take k).flatMap f) /\ Below w.heap.size w wr) (fun _ i _=>n - (intOf i).toNat)
 case atStart=>exact ⟨0,qXf _,rfl,by simpa [jG] using HV0.out,HB0.out⟩
 case round =>
  obtain ⟨k,hkn,rfl,hv,hb⟩:=hrel;have hsz:=hb.size;have HB:=hid hb;have HV:=hid hv;clear hb hv HV0 HB0;by_cases hk:k < n
  ·obtain ⟨x,hx⟩:∃ x,xs[k]?=some x:=⟨xs[k]'(by omega),qW6 (by omega)⟩
   have hlen:(qZ 9 (n:Int) ++ (xs.take k).flatMap f).length <= 100000000100:=by
    have h1:=qE 9 (n:Int);have h2:=qM f (xs.take k) 100000000 (fun y hy=>HLE.out y (qXs hy));have h3:(xs.take k).length <= k:=List.length_take_le _ _;have h4:(xs.take k).length * 100000000 <= 1000 * 100000000:=qXl _ (by omega);simp only [qW7];omega
   have hsn:=jI f xs k x hx;have hfx:=HLE.out _ (qXa hx);obtain ⟨b,off,cs,rfl,hcl,hR,hc⟩:=RdG.elem (H.out.below HB.out) hx;obtain ⟨y1,y2,y3⟩:=x;obtain ⟨rfl,hy1,hy2⟩:=hR.now;have c0:=hc 0 _ rfl;rw [qXd] at c0;have c1:=hc 1 _ rfl;have c2:=hc 2 _ rfl;have HR:=hid hR;have HX:=hid (qXa hx);clear hc hR hx hcl hy1 hy2 hl
   obtain ⟨ys,hys⟩:∃ ys,ys=qZ 9 (n:Int) ++ (xs.take k).flatMap f:=⟨_,rfl⟩
   rw [<- hys] at HV hlen
   obtain ⟨zs,hzs⟩:∃ zs,zs=f ⟨y1,y2,y3⟩:=⟨_,rfl⟩
   have hcall:=HFF.out (wr.alloc (.cells #[.bool y1,.int .i64 y2,.int .i64 y3] 58)) _ _ HX.out (HR.out.alloc _);rw [<- hzs] at hcall hfx hsn;have HCALL:=hid hcall;have HYS:=hid hys;have HSN:=hid hsn;clear hcall hys hzs hsn;go_wp2_with fail;refine HCALL.out.mono ?_;rintro e w1 ⟨v1,rfl,hv1,hb1⟩;obtain ⟨ao1,cap1,rfl,hr1⟩:=hv1.rd
   have hbb:=(Bl.step (Bl.alloc (Bl.refl wr) _) hb1)
   have HB1:=hid (HB.out.trans (hbb.mono hsz));have HV1:=hid (HV.out.below hbb (qW8 _));have HR1:=hid hr1;have hsz1:=HB1.out.size
   obtain ⟨m1,hm1⟩:∃ m1,m1=zs.length:=⟨_,rfl⟩
   rw [<- hm1] at HR1 hfx ⊢;clear hv1 hb1 hr1 hbb hm1 HCALL HV HB c0 c1 c2
   go_wp2_with (at_builtin;refine qA rfl (.tmp 17) (.tmp 20) 37 rfl 5 .u8 w.heap.size 1 Tryz.underlying37 qG _ ys rfl HV1.out ao1 _ cap1 zs rfl HR1.out (by omega) (by omega) hsz1 ?_;intro v2 w2 h3 h4 _)
   go_roundw
   case rel =>
    refine ⟨k + 1,by omega,by go_num,?_,HB1.out.trans h4⟩;rw [HSN.out,<- qXe,<- HYS.out];exact h3
   case measure=>simp [intOf];omega
  ·have e0:k=n:=by omega
   subst e0;have ht:xs.take k=xs:=qW9 (by rw [Hl.out];exact qW8 _);have ha:=HV.out;rw [ht] at ha;have HA2:=hid ha;clear ht ha hl;go_wp2_with fail;refine bodyPost_ret (v:=u5) (by simp [results,Tryz.results139,go_sem]) rfl ⟨_,rfl,?_,HB.out⟩;unfold qT;rw [Hl.out];exact HA2.out
theorem qQr (g:Nat) (f:MEx -> List Int) (ao:Option Addr) (n cap:Nat) (xs:List (MEx)) (w:World) (h:Rx w fun w=>RdG 2 (ExR) w ao n cap xs) (he:∀ args w,(callFunc g args).run Tryz.prog w=.ok (.enter g args) w) (hn:n <= 1000)
    (hf:∀ x ∈ xs,(f x).length <= 100000000)
    (HF:∀ w cs x,x ∈ xs -> (Rx w fun w=>ExR w cs x) -> Calls Tryz.prog g #[.agg cs.toArray] w fun e w'=>∃ v,e=.returned v /\ Own 5 .u8 w.heap.size w' v (f x) /\ Below w.heap.size w w') :
    Calls Tryz.prog 142 #[.slice ao n cap,.func (.func g) #[] #[]] w fun e w'=>∃ v,e=.returned v /\ Own 5 .u8 w.heap.size w' v (qT f xs) /\ Below w.heap.size w w':=by
 have hl:=h.now.len
 obtain ⟨h63,h63'⟩:=h.now.cap63
 have H:=hid h
 have Hl:=hid hl
 have HFF:=hid HF
 have HLE:=hid hf
 clear h HF hf
 go_enter Tryz.func142,Tryz.ntmps142
 go_wp2_with fail
 refine (qS (n:Int) w (by omega) (by omega)).mono ?_
 rintro e w0 ⟨v0,rfl,hv0,hb0⟩
 have HV0:=hid hv0
 have HB0:=hid hb0
 clear hv0 hb0
 go_wp2_with fail
 go_loopw [5,13] (fun v i wr=>∃ k:Nat,k <= n /\ i=.int .i64 k /\ Own 5 .u8 w.heap.size wr v (qZ 9 (n:Int) ++ (xs.take k).flatMap f) /\ Below w.heap.size w wr) (fun _ i _=>n - (intOf i).toNat)
 case atStart=>exact ⟨0,qXf _,rfl,by simpa [jG] using HV0.out,HB0.out⟩
 case round =>
  obtain ⟨k,hkn,rfl,hv,hb⟩:=hrel;have hsz:=hb.size;have HB:=hid hb;have HV:=hid hv;clear hb hv HV0 HB0;by_cases hk:k < n
  ·obtain ⟨x,hx⟩:∃ x,xs[k]?=some x:=⟨xs[k]'(by omega),qW6 (by omega)⟩
   have hlen:(qZ 9 (n:Int) ++ (xs.take k).flatMap f).length <= 100000000100:=by
    have h1:=qE 9 (n:Int);have h2:=qM f (xs.take k) 100000000 (fun y hy=>HLE.out y (qXs hy));have h3:(xs.take k).length <= k:=List.length_take_le _ _;have h4:(xs.take k).length * 100000000 <= 1000 * 100000000:=qXl _ (by omega);simp only [qW7];omega
   have hsn:=jI f xs k x hx;have hfx:=HLE.out _ (qXa hx);obtain ⟨b,off,cs,rfl,hcl,hR,hc⟩:=RdG.elem (H.out.below HB.out) hx;obtain ⟨y1,y2⟩:=x;obtain rfl:=hR.now;have c0:=hc 0 _ rfl;rw [qXd] at c0;have c1:=hc 1 _ rfl;have HR:=hid hR;have HX:=hid (qXa hx);clear hc hR hx hcl hl
   obtain ⟨ys,hys⟩:∃ ys,ys=qZ 9 (n:Int) ++ (xs.take k).flatMap f:=⟨_,rfl⟩
   rw [<- hys] at HV hlen
   obtain ⟨zs,hzs⟩:∃ zs,zs=f ⟨y1,y2⟩:=⟨_,rfl⟩
   have hcall:=HFF.out (wr.alloc (.cells #[.string y1,.int .i64 y2] 60)) _ _ HX.out (HR.out.alloc _);rw [<- hzs] at hcall hfx hsn;have HCALL:=hid hcall;have HYS:=hid hys;have HSN:=hid hsn;clear hcall hys hzs hsn;go_wp2_with fail;refine HCALL.out.mono ?_;rintro e w1 ⟨v1,rfl,hv1,hb1⟩;obtain ⟨ao1,cap1,rfl,hr1⟩:=hv1.rd
   have hbb:=(Bl.step (Bl.alloc (Bl.refl wr) _) hb1)
   have HB1:=hid (HB.out.trans (hbb.mono hsz));have HV1:=hid (HV.out.below hbb (qW8 _));have HR1:=hid hr1;have hsz1:=HB1.out.size
   obtain ⟨m1,hm1⟩:∃ m1,m1=zs.length:=⟨_,rfl⟩
   rw [<- hm1] at HR1 hfx ⊢;clear hv1 hb1 hr1 hbb hm1 HCALL HV HB c0 c1
   go_wp2_with (at_builtin;refine qA rfl (.tmp 17) (.tmp 20) 37 rfl 5 .u8 w.heap.size 1 Tryz.underlying37 qG _ ys rfl HV1.out ao1 _ cap1 zs rfl HR1.out (by omega) (by omega) hsz1 ?_;intro v2 w2 h3 h4 _)
   go_roundw
   case rel =>
    refine ⟨k + 1,by omega,by go_num,?_,HB1.out.trans h4⟩;rw [HSN.out,<- qXe,<- HYS.out];exact h3
   case measure=>simp [intOf];omega
  ·have e0:k=n:=by omega
   subst e0;have ht:xs.take k=xs:=qW9 (by rw [Hl.out];exact qW8 _);have ha:=HV.out;rw [ht] at ha;have HA2:=hid ha;clear ht ha hl;go_wp2_with fail;refine bodyPost_ret (v:=u5) (by simp [results,Tryz.results142,go_sem]) rfl ⟨_,rfl,?_,HB.out⟩;unfold qT;rw [Hl.out];exact HA2.out
theorem qQs (g:Nat) (f:MEl -> List Int) (ao:Option Addr) (n cap:Nat) (xs:List (MEl)) (w:World) (h:Rx w fun w=>RdG 2 (ElR) w ao n cap xs) (he:∀ args w,(callFunc g args).run Tryz.prog w=.ok (.enter g args) w) (hn:n <= 1000)
    (hf:∀ x ∈ xs,(f x).length <= 100000000)
    (HF:∀ w cs x,x ∈ xs -> (Rx w fun w=>ElR w cs x) -> Calls Tryz.prog g #[.agg cs.toArray] w fun e w'=>∃ v,e=.returned v /\ Own 5 .u8 w.heap.size w' v (f x) /\ Below w.heap.size w w') :
    Calls Tryz.prog 143 #[.slice ao n cap,.func (.func g) #[] #[]] w fun e w'=>∃ v,e=.returned v /\ Own 5 .u8 w.heap.size w' v (qT f xs) /\ Below w.heap.size w w':=by
 have hl:=h.now.len
 obtain ⟨h63,h63'⟩:=h.now.cap63
 have H:=hid h
 have Hl:=hid hl
 have HFF:=hid HF
 have HLE:=hid hf
 clear h HF hf
 go_enter Tryz.func143,Tryz.ntmps143
 go_wp2_with fail
 refine (qS (n:Int) w (by omega) (by omega)).mono ?_
 rintro e w0 ⟨v0,rfl,hv0,hb0⟩
 have HV0:=hid hv0
 have HB0:=hid hb0
 clear hv0 hb0
 go_wp2_with fail
 go_loopw [5,13] (fun v i wr=>∃ k:Nat,k <= n /\ i=.int .i64 k /\ Own 5 .u8 w.heap.size wr v (qZ 9 (n:Int) ++ (xs.take k).flatMap f) /\ Below w.heap.size w wr) (fun _ i _=>n - (intOf i).toNat)
 case atStart=>exact ⟨0,qXf _,rfl,by simpa [jG] using HV0.out,HB0.out⟩
 case round =>
  obtain ⟨k,hkn,rfl,hv,hb⟩:=hrel;have hsz:=hb.size;have HB:=hid hb;have HV:=hid hv;clear hb hv HV0 HB0;by_cases hk:k < n
  ·obtain ⟨x,hx⟩:∃ x,xs[k]?=some x:=⟨xs[k]'(by omega),qW6 (by omega)⟩
   have hlen:(qZ 9 (n:Int) ++ (xs.take k).flatMap f).length <= 100000000100:=by
    have h1:=qE 9 (n:Int);have h2:=qM f (xs.take k) 100000000 (fun y hy=>HLE.out y (qXs hy));have h3:(xs.take k).length <= k:=List.length_take_le _ _;have h4:(xs.take k).length * 100000000 <= 1000 * 100000000:=qXl _ (by omega);simp only [qW7];omega
   have hsn:=jI f xs k x hx;have hfx:=HLE.out _ (qXa hx);obtain ⟨b,off,cs,rfl,hcl,hR,hc⟩:=RdG.elem (H.out.below HB.out) hx;obtain ⟨y1,y2⟩:=x;obtain ⟨a1,n1,k1,rfl,hr1⟩:=hR.now;have c0:=hc 0 _ rfl;rw [qXd] at c0;have c1:=hc 1 _ rfl;have HR:=hid hR;have HX:=hid (qXa hx);clear hc hR hx hcl hr1 hl
   obtain ⟨ys,hys⟩:∃ ys,ys=qZ 9 (n:Int) ++ (xs.take k).flatMap f:=⟨_,rfl⟩
   rw [<- hys] at HV hlen
   obtain ⟨zs,hzs⟩:∃ zs,zs=f ⟨y1,y2⟩:=⟨_,rfl⟩
   have hcall:=HFF.out (wr.alloc (.cells #[.int .i64 y1,.slice a1 n1 k1] 67)) _ _ HX.out (HR.out.alloc _);rw [<- hzs] at hcall hfx hsn;have HCALL:=hid hcall;have HYS:=hid hys;have HSN:=hid hsn;clear hcall hys hzs hsn;go_wp2_with fail;refine HCALL.out.mono ?_;rintro e w1 ⟨v1,rfl,hv1,hb1⟩;obtain ⟨ao1,cap1,rfl,hr1⟩:=hv1.rd
   have hbb:=(Bl.step (Bl.alloc (Bl.refl wr) _) hb1)
   have HB1:=hid (HB.out.trans (hbb.mono hsz));have HV1:=hid (HV.out.below hbb (qW8 _));have HR1:=hid hr1;have hsz1:=HB1.out.size
   obtain ⟨m1,hm1⟩:∃ m1,m1=zs.length:=⟨_,rfl⟩
   rw [<- hm1] at HR1 hfx ⊢;clear hv1 hb1 hr1 hbb hm1 HCALL HV HB c0 c1
   go_wp2_with (at_builtin;refine qA rfl (.tmp 17) (.tmp 20) 37 rfl 5 .u8 w.heap.size 1 Tryz.underlying37 qG _ ys rfl HV1.out ao1 _ cap1 zs rfl HR1.out (by omega) (by omega) hsz1 ?_;intro v2 w2 h3 h4 _)
   go_roundw
   case rel =>
    refine ⟨k + 1,by omega,by go_num,?_,HB1.out.trans h4⟩;rw [HSN.out,<- qXe,<- HYS.out];exact h3
   case measure=>simp [intOf];omega
  ·have e0:k=n:=by omega
   subst e0;have ht:xs.take k=xs:=qW9 (by rw [Hl.out];exact qW8 _);have ha:=HV.out;rw [ht] at ha;have HA2:=hid ha;clear ht ha hl;go_wp2_with fail;refine bodyPost_ret (v:=u5) (by simp [results,Tryz.results143,go_sem]) rfl ⟨_,rfl,?_,HB.out⟩;unfold qT;rw [Hl.out];exact HA2.out
theorem qQt (g:Nat) (f:MCo -> List Int) (ao:Option Addr) (n cap:Nat) (xs:List (MCo)) (w:World) (h:Rx w fun w=>RdG 2 (CoR) w ao n cap xs) (he:∀ args w,(callFunc g args).run Tryz.prog w=.ok (.enter g args) w) (hn:n <= 1000)
    (hf:∀ x ∈ xs,(f x).length <= 100000000)
    (HF:∀ w cs x,x ∈ xs -> (Rx w fun w=>CoR w cs x) -> Calls Tryz.prog g #[.agg cs.toArray] w fun e w'=>∃ v,e=.returned v /\ Own 5 .u8 w.heap.size w' v (f x) /\ Below w.heap.size w w') :
    Calls Tryz.prog 145 #[.slice ao n cap,.func (.func g) #[] #[]] w fun e w'=>∃ v,e=.returned v /\ Own 5 .u8 w.heap.size w' v (qT f xs) /\ Below w.heap.size w w':=by
 have hl:=h.now.len
 obtain ⟨h63,h63'⟩:=h.now.cap63
 have H:=hid h
 have Hl:=hid hl
 have HFF:=hid HF
 have HLE:=hid hf
 clear h HF hf
 go_enter Tryz.func145,Tryz.ntmps145
 go_wp2_with fail
 refine (qS (n:Int) w (by omega) (by omega)).mono ?_
 rintro e w0 ⟨v0,rfl,hv0,hb0⟩
 have HV0:=hid hv0
 have HB0:=hid hb0
 clear hv0 hb0
 go_wp2_with fail
 go_loopw [5,13] (fun v i wr=>∃ k:Nat,k <= n /\ i=.int .i64 k /\ Own 5 .u8 w.heap.size wr v (qZ 9 (n:Int) ++ (xs.take k).flatMap f) /\ Below w.heap.size w wr) (fun _ i _=>n - (intOf i).toNat)
 case atStart=>exact ⟨0,qXf _,rfl,by simpa [jG] using HV0.out,HB0.out⟩
 case round =>
  obtain ⟨k,hkn,rfl,hv,hb⟩:=hrel;have hsz:=hb.size;have HB:=hid hb;have HV:=hid hv;clear hb hv HV0 HB0;by_cases hk:k < n
  ·obtain ⟨x,hx⟩:∃ x,xs[k]?=some x:=⟨xs[k]'(by omega),qW6 (by omega)⟩
   have hlen:(qZ 9 (n:Int) ++ (xs.take k).flatMap f).length <= 100000000100:=by
    have h1:=qE 9 (n:Int);have h2:=qM f (xs.take k) 100000000 (fun y hy=>HLE.out y (qXs hy));have h3:(xs.take k).length <= k:=List.length_take_le _ _;have h4:(xs.take k).length * 100000000 <= 1000 * 100000000:=qXl _ (by omega);simp only [qW7];omega
   have hsn:=jI f xs k x hx;have hfx:=HLE.out _ (qXa hx);obtain ⟨b,off,cs,rfl,hcl,hR,hc⟩:=RdG.elem (H.out.below HB.out) hx;obtain ⟨y1,y2⟩:=x;obtain ⟨a1,n1,k1,a2,n2,k2,rfl,hr1,hr2⟩:=hR.now;have c0:=hc 0 _ rfl;rw [qXd] at c0;have c1:=hc 1 _ rfl;have HR:=hid hR;have HX:=hid (qXa hx);clear hc hR hx hcl hr1 hr2 hl
   obtain ⟨ys,hys⟩:∃ ys,ys=qZ 9 (n:Int) ++ (xs.take k).flatMap f:=⟨_,rfl⟩
   rw [<- hys] at HV hlen
   obtain ⟨zs,hzs⟩:∃ zs,zs=f ⟨y1,y2⟩:=⟨_,rfl⟩
   have hcall:=HFF.out (wr.alloc (.cells #[.slice a1 n1 k1,.slice a2 n2 k2] 49)) _ _ HX.out (HR.out.alloc _);rw [<- hzs] at hcall hfx hsn;have HCALL:=hid hcall;have HYS:=hid hys;have HSN:=hid hsn;clear hcall hys hzs hsn;go_wp2_with fail;refine HCALL.out.mono ?_;rintro e w1 ⟨v1,rfl,hv1,hb1⟩;obtain ⟨ao1,cap1,rfl,hr1⟩:=hv1.rd
   have hbb:=(Bl.step (Bl.alloc (Bl.refl wr) _) hb1)
   have HB1:=hid (HB.out.trans (hbb.mono hsz));have HV1:=hid (HV.out.below hbb (qW8 _));have HR1:=hid hr1;have hsz1:=HB1.out.size
   obtain ⟨m1,hm1⟩:∃ m1,m1=zs.length:=⟨_,rfl⟩
   rw [<- hm1] at HR1 hfx ⊢;clear hv1 hb1 hr1 hbb hm1 HCALL HV HB c0 c1
   go_wp2_with (at_builtin;refine qA rfl (.tmp 17) (.tmp 20) 37 rfl 5 .u8 w.heap.size 1 Tryz.underlying37 qG _ ys rfl HV1.out ao1 _ cap1 zs rfl HR1.out (by omega) (by omega) hsz1 ?_;intro v2 w2 h3 h4 _)
   go_roundw
   case rel =>
    refine ⟨k + 1,by omega,by go_num,?_,HB1.out.trans h4⟩;rw [HSN.out,<- qXe,<- HYS.out];exact h3
   case measure=>simp [intOf];omega
  ·have e0:k=n:=by omega
   subst e0;have ht:xs.take k=xs:=qW9 (by rw [Hl.out];exact qW8 _);have ha:=HV.out;rw [ht] at ha;have HA2:=hid ha;clear ht ha hl;go_wp2_with fail;refine bodyPost_ret (v:=u5) (by simp [results,Tryz.results145,go_sem]) rfl ⟨_,rfl,?_,HB.out⟩;unfold qT;rw [Hl.out];exact HA2.out
theorem qQu (g:Nat) (f:MDa -> List Int) (ao:Option Addr) (n cap:Nat) (xs:List (MDa)) (w:World) (h:Rx w fun w=>RdG 2 (DaR) w ao n cap xs) (he:∀ args w,(callFunc g args).run Tryz.prog w=.ok (.enter g args) w) (hn:n <= 1000)
    (hf:∀ x ∈ xs,(f x).length <= 100000000)
    (HF:∀ w cs x,x ∈ xs -> (Rx w fun w=>DaR w cs x) -> Calls Tryz.prog g #[.agg cs.toArray] w fun e w'=>∃ v,e=.returned v /\ Own 5 .u8 w.heap.size w' v (f x) /\ Below w.heap.size w w') :
    Calls Tryz.prog 150 #[.slice ao n cap,.func (.func g) #[] #[]] w fun e w'=>∃ v,e=.returned v /\ Own 5 .u8 w.heap.size w' v (qT f xs) /\ Below w.heap.size w w':=by
 have hl:=h.now.len
 obtain ⟨h63,h63'⟩:=h.now.cap63
 have H:=hid h
 have Hl:=hid hl
 have HFF:=hid HF
 have HLE:=hid hf
 clear h HF hf
 go_enter Tryz.func150,Tryz.ntmps150
 go_wp2_with fail
 refine (qS (n:Int) w (by omega) (by omega)).mono ?_
 rintro e w0 ⟨v0,rfl,hv0,hb0⟩
 have HV0:=hid hv0
 have HB0:=hid hb0
 clear hv0 hb0
 go_wp2_with fail
 go_loopw [5,13] (fun v i wr=>∃ k:Nat,k <= n /\ i=.int .i64 k /\ Own 5 .u8 w.heap.size wr v (qZ 9 (n:Int) ++ (xs.take k).flatMap f) /\ Below w.heap.size w wr) (fun _ i _=>n - (intOf i).toNat)
 case atStart=>exact ⟨0,qXf _,rfl,by simpa [jG] using HV0.out,HB0.out⟩
 case round =>
  obtain ⟨k,hkn,rfl,hv,hb⟩:=hrel;have hsz:=hb.size;have HB:=hid hb;have HV:=hid hv;clear hb hv HV0 HB0;by_cases hk:k < n
  ·obtain ⟨x,hx⟩:∃ x,xs[k]?=some x:=⟨xs[k]'(by omega),qW6 (by omega)⟩
   have hlen:(qZ 9 (n:Int) ++ (xs.take k).flatMap f).length <= 100000000100:=by
    have h1:=qE 9 (n:Int);have h2:=qM f (xs.take k) 100000000 (fun y hy=>HLE.out y (qXs hy));have h3:(xs.take k).length <= k:=List.length_take_le _ _;have h4:(xs.take k).length * 100000000 <= 1000 * 100000000:=qXl _ (by omega);simp only [qW7];omega
   have hsn:=jI f xs k x hx;have hfx:=HLE.out _ (qXa hx);obtain ⟨b,off,cs,rfl,hcl,hR,hc⟩:=RdG.elem (H.out.below HB.out) hx;obtain ⟨y1,y2⟩:=x;obtain ⟨a1,n1,k1,rfl,hr1⟩:=hR.now;have c0:=hc 0 _ rfl;rw [qXd] at c0;have c1:=hc 1 _ rfl;have HR:=hid hR;have HX:=hid (qXa hx);clear hc hR hx hcl hr1 hl
   obtain ⟨ys,hys⟩:∃ ys,ys=qZ 9 (n:Int) ++ (xs.take k).flatMap f:=⟨_,rfl⟩
   rw [<- hys] at HV hlen
   obtain ⟨zs,hzs⟩:∃ zs,zs=f ⟨y1,y2⟩:=⟨_,rfl⟩
   have hcall:=HFF.out (wr.alloc (.cells #[.int .i64 y1,.slice a1 n1 k1] 44)) _ _ HX.out (HR.out.alloc _);rw [<- hzs] at hcall hfx hsn;have HCALL:=hid hcall;have HYS:=hid hys;have HSN:=hid hsn;clear hcall hys hzs hsn;go_wp2_with fail;refine HCALL.out.mono ?_;rintro e w1 ⟨v1,rfl,hv1,hb1⟩;obtain ⟨ao1,cap1,rfl,hr1⟩:=hv1.rd
   have hbb:=(Bl.step (Bl.alloc (Bl.refl wr) _) hb1)
   have HB1:=hid (HB.out.trans (hbb.mono hsz));have HV1:=hid (HV.out.below hbb (qW8 _));have HR1:=hid hr1;have hsz1:=HB1.out.size
   obtain ⟨m1,hm1⟩:∃ m1,m1=zs.length:=⟨_,rfl⟩
   rw [<- hm1] at HR1 hfx ⊢;clear hv1 hb1 hr1 hbb hm1 HCALL HV HB c0 c1
   go_wp2_with (at_builtin;refine qA rfl (.tmp 17) (.tmp 20) 37 rfl 5 .u8 w.heap.size 1 Tryz.underlying37 qG _ ys rfl HV1.out ao1 _ cap1 zs rfl HR1.out (by omega) (by omega) hsz1 ?_;intro v2 w2 h3 h4 _)
   go_roundw
   case rel =>
    refine ⟨k + 1,by omega,by go_num,?_,HB1.out.trans h4⟩;rw [HSN.out,<- qXe,<- HYS.out];exact h3
   case measure=>simp [intOf];omega
  ·have e0:k=n:=by omega
   subst e0;have ht:xs.take k=xs:=qW9 (by rw [Hl.out];exact qW8 _);have ha:=HV.out;rw [ht] at ha;have HA2:=hid ha;clear ht ha hl;go_wp2_with fail;refine bodyPost_ret (v:=u5) (by simp [results,Tryz.results150,go_sem]) rfl ⟨_,rfl,?_,HB.out⟩;unfold qT;rw [Hl.out];exact HA2.out
theorem qQv (g:Nat) (f:Int × Int -> List Int) (ao:Option Addr) (n cap:Nat) (xs:List (Int × Int)) (w:World) (h:Rx w fun w=>RdG 2 (RuR) w ao n cap xs) (he:∀ args w,(callFunc g args).run Tryz.prog w=.ok (.enter g args) w) (hn:n <= 1000)
    (hf:∀ x ∈ xs,(f x).length <= 100000000)
    (HF:∀ w cs x,x ∈ xs -> (Rx w fun w=>RuR w cs x) -> Calls Tryz.prog g #[.agg cs.toArray] w fun e w'=>∃ v,e=.returned v /\ Own 5 .u8 w.heap.size w' v (f x) /\ Below w.heap.size w w') :
    Calls Tryz.prog 146 #[.slice ao n cap,.func (.func g) #[] #[]] w fun e w'=>∃ v,e=.returned v /\ Own 5 .u8 w.heap.size w' v (qT f xs) /\ Below w.heap.size w w':=by
 have hl:=h.now.len
 obtain ⟨h63,h63'⟩:=h.now.cap63
 have H:=hid h
 have Hl:=hid hl
 have HFF:=hid HF
 have HLE:=hid hf
 clear h HF hf
 go_enter Tryz.func146,Tryz.ntmps146
 go_wp2_with fail
 refine (qS (n:Int) w (by omega) (by omega)).mono ?_
 rintro e w0 ⟨v0,rfl,hv0,hb0⟩
 have HV0:=hid hv0
 have HB0:=hid hb0
 clear hv0 hb0
 go_wp2_with fail
 go_loopw [5,13] (fun v i wr=>∃ k:Nat,k <= n /\ i=.int .i64 k /\ Own 5 .u8 w.heap.size wr v (qZ 9 (n:Int) ++ (xs.take k).flatMap f) /\ Below w.heap.size w wr) (fun _ i _=>n - (intOf i).toNat)
 case atStart=>exact ⟨0,qXf _,rfl,by simpa [jG] using HV0.out,HB0.out⟩
 case round =>
  obtain ⟨k,hkn,rfl,hv,hb⟩:=hrel;have hsz:=hb.size;have HB:=hid hb;have HV:=hid hv;clear hb hv HV0 HB0;by_cases hk:k < n
  ·obtain ⟨x,hx⟩:∃ x,xs[k]?=some x:=⟨xs[k]'(by omega),qW6 (by omega)⟩
   have hlen:(qZ 9 (n:Int) ++ (xs.take k).flatMap f).length <= 100000000100:=by
    have h1:=qE 9 (n:Int);have h2:=qM f (xs.take k) 100000000 (fun y hy=>HLE.out y (qXs hy));have h3:(xs.take k).length <= k:=List.length_take_le _ _;have h4:(xs.take k).length * 100000000 <= 1000 * 100000000:=qXl _ (by omega);simp only [qW7];omega
   have hsn:=jI f xs k x hx;have hfx:=HLE.out _ (qXa hx);obtain ⟨b,off,cs,rfl,hcl,hR,hc⟩:=RdG.elem (H.out.below HB.out) hx;obtain ⟨y1,y2⟩:=x;obtain rfl:=hR.now;have c0:=hc 0 _ rfl;rw [qXd] at c0;have c1:=hc 1 _ rfl;have HR:=hid hR;have HX:=hid (qXa hx);clear hc hR hx hcl hl
   obtain ⟨ys,hys⟩:∃ ys,ys=qZ 9 (n:Int) ++ (xs.take k).flatMap f:=⟨_,rfl⟩
   rw [<- hys] at HV hlen
   obtain ⟨zs,hzs⟩:∃ zs,zs=f ⟨y1,y2⟩:=⟨_,rfl⟩
   have hcall:=HFF.out (wr.alloc (.cells #[.int .i64 y1,.int .i64 y2] 184)) _ _ HX.out (HR.out.alloc _);rw [<- hzs] at hcall hfx hsn;have HCALL:=hid hcall;have HYS:=hid hys;have HSN:=hid hsn;clear hcall hys hzs hsn;go_wp2_with fail;refine HCALL.out.mono ?_;rintro e w1 ⟨v1,rfl,hv1,hb1⟩;obtain ⟨ao1,cap1,rfl,hr1⟩:=hv1.rd
   have hbb:=(Bl.step (Bl.alloc (Bl.refl wr) _) hb1)
   have HB1:=hid (HB.out.trans (hbb.mono hsz));have HV1:=hid (HV.out.below hbb (qW8 _));have HR1:=hid hr1;have hsz1:=HB1.out.size
   obtain ⟨m1,hm1⟩:∃ m1,m1=zs.length:=⟨_,rfl⟩
   rw [<- hm1] at HR1 hfx ⊢;clear hv1 hb1 hr1 hbb hm1 HCALL HV HB c0 c1
   go_wp2_with (at_builtin;refine qA rfl (.tmp 17) (.tmp 20) 37 rfl 5 .u8 w.heap.size 1 Tryz.underlying37 qG _ ys rfl HV1.out ao1 _ cap1 zs rfl HR1.out (by omega) (by omega) hsz1 ?_;intro v2 w2 h3 h4 _)
   go_roundw
   case rel =>
    refine ⟨k + 1,by omega,by go_num,?_,HB1.out.trans h4⟩;rw [HSN.out,<- qXe,<- HYS.out];exact h3
   case measure=>simp [intOf];omega
  ·have e0:k=n:=by omega
   subst e0;have ht:xs.take k=xs:=qW9 (by rw [Hl.out];exact qW8 _);have ha:=HV.out;rw [ht] at ha;have HA2:=hid ha;clear ht ha hl;go_wp2_with fail;refine bodyPost_ret (v:=u5) (by simp [results,Tryz.results146,go_sem]) rfl ⟨_,rfl,?_,HB.out⟩;unfold qT;rw [Hl.out];exact HA2.out
open Go.RowKit
theorem zP (ao:Option Addr) (n cap:Nat) (xs:List Int) (w:World) (h:Rd .u8 w ao n cap xs) (hn:n <= 1000000000000) :
    Calls Tryz.prog 131 #[.slice ao n cap] w fun e w'=>∃ v,e=.returned v /\ Own 5 .u8 w.heap.size w' v (szE xs) /\ Below w.heap.size w w':=by
 have hl:=h.len
 have h63:=h.cap63
 have hle:=h.le
 have H:=hid h
 have Hl:=hid hl
 clear h hl
 go_enter Tryz.func131,Tryz.ntmps131
 go_wp2_with fail
 refine (qS (n:Int) w (by omega) (by omega)).mono ?_
 rintro e w1 ⟨v1,rfl,hv1,hb1⟩
 obtain ⟨ao1,cap1,rfl,hr1⟩:=hv1.rd
 have hnl:(jG (n:Int)).length <= 10:=qE 9 _
 obtain ⟨ss,hss⟩:∃ ss,ss=jG (n:Int):=⟨_,rfl⟩
 rw [<- hss] at hr1 hnl ⊢
 have hp:=jE (w:=w1) [⟨ao1,ss.length,cap1,ss⟩,⟨ao,n,cap,xs⟩] (by
  intro p hp;simp at hp;rcases hp with rfl | rfl
  ·exact hr1
  ·exact H.out.below hb1) 37
 have hcc:=jA _ 0 _ 2 _ rfl (by decide) hp (by simp [vC];omega)
 have HCC:=hid hcc
 have HB1:=hid hb1
 have HSS:=hid hss
 clear hv1 hb1 hr1 hp hcc hss
 go_wp2_with fail
 refine HCC.out.mono ?_
 rintro e w3 ⟨v3,rfl,hv3,hb3⟩
 have HB3:=hid (Bl.step (Bl.alloc HB1.out _) hb3)
 have HV3:=hid (hv3.lift (Bl.alloc HB1.out _).size)
 clear hv3 hb3 HCC
 go_wp2_with fail
 go_ret
 refine ⟨_,rfl,?_,HB3.out⟩
 have:=HV3.out
 simp only [vY,List.append_nil] at this
 unfold szE
 rw [Hl.out]
 rw [HSS.out] at this
 exact this
theorem qTm (kn:Int) (hkn:0 <= kn /\ kn <= 255) (g:Nat) (f:Int -> List Int) (ao:Option Addr) (n cap:Nat) (xs:List (Int)) (w:World) (h:Rx w fun w=>RdG 1 (IR .i64) w ao n cap xs) (he:∀ args w,(callFunc g args).run Tryz.prog w=.ok (.enter g args) w) (hn:n <= 1000)
    (hf:∀ x ∈ xs,(f x).length <= 100000000)
    (HF:∀ w cs x,x ∈ xs -> (Rx w fun w=>IR .i64 w cs x) -> Calls Tryz.prog g #[(cs.getD 0 undef)] w fun e w'=>∃ v,e=.returned v /\ Own 5 .u8 w.heap.size w' v (f x) /\ Below w.heap.size w w') :
    Calls Tryz.prog 66 #[.int .u8 kn,.slice ao n cap,.func (.func g) #[] #[]] w fun e w'=>∃ v,e=.returned v /\ Own 5 .u8 w.heap.size w' v (qL kn f xs) /\ Below w.heap.size w w':=by
 have hl:=h.now.len
 obtain ⟨h63,h63'⟩:=h.now.cap63
 cases xs with
 | nil =>
   simp at hl;subst hl;clear h HF hf;go_enter Tryz.func66,Tryz.ntmps66;go_wp2_with fail;go_ret;exact ⟨_,rfl,Own.nil _ _ _ _,qXh _ _⟩
 | cons x r =>
   have hn0:0 < n:=by rw [<- hl];simp
   have hne:¬ (n:Int)=0:=by omega
   have hvl:(qT f (x :: r)).length <= 100000000100:=by
    have h1:=qE 9 (n:Int);have h2:=qM f (x :: r) 100000000 hf;have h4:(x :: r).length * 100000000 <= 1000 * 100000000:=qXl _ (by omega);unfold qT;rw [hl];simp only [qW7];omega
   have es:qL kn f (x :: r)=kn :: szE (qT f (x :: r)):=rfl;rw [es];have hvec:=qH6 g f ao n cap (x :: r) (w.alloc (.cells #[.int .u8 kn] 5)) (h.alloc _) he hn hf HF
   obtain ⟨vs,hvs⟩:∃ vs,vs=qT f (x :: r):=⟨_,rfl⟩
   rw [<- hvs] at hvec hvl ⊢;have HVEC:=hid hvec;clear hvec hvs es h HF hf he hl;go_enter Tryz.func66,Tryz.ntmps66;go_wp2_with fail;refine HVEC.out.mono ?_;rintro e w1 ⟨v1,rfl,hv1,hb1⟩;obtain ⟨ao1,cap1,rfl,hr1⟩:=hv1.rd;have HR1:=hid hr1;have HB1:=hid (Bl.step (Bl.alloc (Bl.refl w) _) hb1);have HK1:=hid ((Rd.built w .u8 5 kn (WalkArith.wf_u8 hkn)).below hb1);clear hv1 hb1 hr1 HVEC;go_wp2_with fail;refine (zP ao1 _ cap1 vs w1 HR1.out (by omega)).mono ?_;rintro e w2 ⟨v2,rfl,hv2,hb2⟩;obtain ⟨ao2,cap2,rfl,hr2⟩:=hv2.rd
   have hsl:(szE vs).length <= 100000000200:=by
    have h1:=qE 9 (vs.length:Int);unfold szE;simp only [qW7];omega
   obtain ⟨ss,hss⟩:∃ ss,ss=szE vs:=⟨_,rfl⟩
   rw [<- hss] at hr2 hsl ⊢
   have hp:=jE (w:=w2) [⟨some ⟨w.heap.size,0,none⟩,1,1,[kn]⟩,⟨ao2,ss.length,cap2,ss⟩] (by
    intro p hp;simp at hp;rcases hp with rfl | rfl
    ·exact HK1.out.below hb2
    ·exact hr2) 37
   have hcc:=jA _ 0 _ 2 _ rfl (by decide) hp (by simp [vC];omega);have HCC:=hid hcc;have HB2:=hid (Bl.step HB1.out hb2);have HSS:=hid hss;clear hv2 hb2 hr2 hp hcc hsl hss HR1 HK1;go_wp2_with fail;refine HCC.out.mono ?_;rintro e w3 ⟨v3,rfl,hv3,hb3⟩;have HB3:=hid (Bl.step (Bl.alloc HB2.out _) hb3);have HV3:=hid (hv3.lift (Bl.alloc HB2.out _).size);clear hv3 hb3 HCC;go_wp2_with fail;go_ret;exact ⟨_,rfl,by rw [<- HSS.out];simpa [vY] using HV3.out,HB3.out⟩
theorem qQw (kn:Int) (hkn:0 <= kn /\ kn <= 255) (g:Nat) (f:MTy -> List Int) (ao:Option Addr) (n cap:Nat) (xs:List (MTy)) (w:World) (h:Rx w fun w=>RdG 2 (TyR) w ao n cap xs) (he:∀ args w,(callFunc g args).run Tryz.prog w=.ok (.enter g args) w) (hn:n <= 1000)
    (hf:∀ x ∈ xs,(f x).length <= 100000000)
    (HF:∀ w cs x,x ∈ xs -> (Rx w fun w=>TyR w cs x) -> Calls Tryz.prog g #[.agg cs.toArray] w fun e w'=>∃ v,e=.returned v /\ Own 5 .u8 w.heap.size w' v (f x) /\ Below w.heap.size w w') :
    Calls Tryz.prog 62 #[.int .u8 kn,.slice ao n cap,.func (.func g) #[] #[]] w fun e w'=>∃ v,e=.returned v /\ Own 5 .u8 w.heap.size w' v (qL kn f xs) /\ Below w.heap.size w w':=by
 have hl:=h.now.len
 obtain ⟨h63,h63'⟩:=h.now.cap63
 cases xs with
 | nil =>
   simp at hl;subst hl;clear h HF hf;go_enter Tryz.func62,Tryz.ntmps62;go_wp2_with fail;go_ret;exact ⟨_,rfl,Own.nil _ _ _ _,qXh _ _⟩
 | cons x r =>
   have hn0:0 < n:=by rw [<- hl];simp
   have hne:¬ (n:Int)=0:=by omega
   have hvl:(qT f (x :: r)).length <= 100000000100:=by
    have h1:=qE 9 (n:Int);have h2:=qM f (x :: r) 100000000 hf;have h4:(x :: r).length * 100000000 <= 1000 * 100000000:=qXl _ (by omega);unfold qT;rw [hl];simp only [qW7];omega
   have es:qL kn f (x :: r)=kn :: szE (qT f (x :: r)):=rfl;rw [es];have hvec:=qQn g f ao n cap (x :: r) (w.alloc (.cells #[.int .u8 kn] 5)) (h.alloc _) he hn hf HF
   obtain ⟨vs,hvs⟩:∃ vs,vs=qT f (x :: r):=⟨_,rfl⟩
   rw [<- hvs] at hvec hvl ⊢;have HVEC:=hid hvec;clear hvec hvs es h HF hf he hl;go_enter Tryz.func62,Tryz.ntmps62;go_wp2_with fail;refine HVEC.out.mono ?_;rintro e w1 ⟨v1,rfl,hv1,hb1⟩;obtain ⟨ao1,cap1,rfl,hr1⟩:=hv1.rd;have HR1:=hid hr1;have HB1:=hid (Bl.step (Bl.alloc (Bl.refl w) _) hb1);have HK1:=hid ((Rd.built w .u8 5 kn (WalkArith.wf_u8 hkn)).below hb1);clear hv1 hb1 hr1 HVEC;go_wp2_with fail;refine (zP ao1 _ cap1 vs w1 HR1.out (by omega)).mono ?_;rintro e w2 ⟨v2,rfl,hv2,hb2⟩;obtain ⟨ao2,cap2,rfl,hr2⟩:=hv2.rd
   have hsl:(szE vs).length <= 100000000200:=by
    have h1:=qE 9 (vs.length:Int);unfold szE;simp only [qW7];omega
   obtain ⟨ss,hss⟩:∃ ss,ss=szE vs:=⟨_,rfl⟩
   rw [<- hss] at hr2 hsl ⊢
   have hp:=jE (w:=w2) [⟨some ⟨w.heap.size,0,none⟩,1,1,[kn]⟩,⟨ao2,ss.length,cap2,ss⟩] (by
    intro p hp;simp at hp;rcases hp with rfl | rfl
    ·exact HK1.out.below hb2
    ·exact hr2) 37
   have hcc:=jA _ 0 _ 2 _ rfl (by decide) hp (by simp [vC];omega);have HCC:=hid hcc;have HB2:=hid (Bl.step HB1.out hb2);have HSS:=hid hss;clear hv2 hb2 hr2 hp hcc hsl hss HR1 HK1;go_wp2_with fail;refine HCC.out.mono ?_;rintro e w3 ⟨v3,rfl,hv3,hb3⟩;have HB3:=hid (Bl.step (Bl.alloc HB2.out _) hb3);have HV3:=hid (hv3.lift (Bl.alloc HB2.out _).size);clear hv3 hb3 HCC;go_wp2_with fail;go_ret;exact ⟨_,rfl,by rw [<- HSS.out];simpa [vY] using HV3.out,HB3.out⟩
theorem qQx (kn:Int) (hkn:0 <= kn /\ kn <= 255) (g:Nat) (f:MIm -> List Int) (ao:Option Addr) (n cap:Nat) (xs:List (MIm)) (w:World) (h:Rx w fun w=>RdG 3 (ImR) w ao n cap xs) (he:∀ args w,(callFunc g args).run Tryz.prog w=.ok (.enter g args) w) (hn:n <= 1000)
    (hf:∀ x ∈ xs,(f x).length <= 100000000)
    (HF:∀ w cs x,x ∈ xs -> (Rx w fun w=>ImR w cs x) -> Calls Tryz.prog g #[.agg cs.toArray] w fun e w'=>∃ v,e=.returned v /\ Own 5 .u8 w.heap.size w' v (f x) /\ Below w.heap.size w w') :
    Calls Tryz.prog 64 #[.int .u8 kn,.slice ao n cap,.func (.func g) #[] #[]] w fun e w'=>∃ v,e=.returned v /\ Own 5 .u8 w.heap.size w' v (qL kn f xs) /\ Below w.heap.size w w':=by
 have hl:=h.now.len
 obtain ⟨h63,h63'⟩:=h.now.cap63
 cases xs with
 | nil =>
   simp at hl;subst hl;clear h HF hf;go_enter Tryz.func64,Tryz.ntmps64;go_wp2_with fail;go_ret;exact ⟨_,rfl,Own.nil _ _ _ _,qXh _ _⟩
 | cons x r =>
   have hn0:0 < n:=by rw [<- hl];simp
   have hne:¬ (n:Int)=0:=by omega
   have hvl:(qT f (x :: r)).length <= 100000000100:=by
    have h1:=qE 9 (n:Int);have h2:=qM f (x :: r) 100000000 hf;have h4:(x :: r).length * 100000000 <= 1000 * 100000000:=qXl _ (by omega);unfold qT;rw [hl];simp only [qW7];omega
   have es:qL kn f (x :: r)=kn :: szE (qT f (x :: r)):=rfl;rw [es];have hvec:=qQo g f ao n cap (x :: r) (w.alloc (.cells #[.int .u8 kn] 5)) (h.alloc _) he hn hf HF
   obtain ⟨vs,hvs⟩:∃ vs,vs=qT f (x :: r):=⟨_,rfl⟩
   rw [<- hvs] at hvec hvl ⊢;have HVEC:=hid hvec;clear hvec hvs es h HF hf he hl;go_enter Tryz.func64,Tryz.ntmps64;go_wp2_with fail;refine HVEC.out.mono ?_;rintro e w1 ⟨v1,rfl,hv1,hb1⟩;obtain ⟨ao1,cap1,rfl,hr1⟩:=hv1.rd;have HR1:=hid hr1;have HB1:=hid (Bl.step (Bl.alloc (Bl.refl w) _) hb1);have HK1:=hid ((Rd.built w .u8 5 kn (WalkArith.wf_u8 hkn)).below hb1);clear hv1 hb1 hr1 HVEC;go_wp2_with fail;refine (zP ao1 _ cap1 vs w1 HR1.out (by omega)).mono ?_;rintro e w2 ⟨v2,rfl,hv2,hb2⟩;obtain ⟨ao2,cap2,rfl,hr2⟩:=hv2.rd
   have hsl:(szE vs).length <= 100000000200:=by
    have h1:=qE 9 (vs.length:Int);unfold szE;simp only [qW7];omega
   obtain ⟨ss,hss⟩:∃ ss,ss=szE vs:=⟨_,rfl⟩
   rw [<- hss] at hr2 hsl ⊢
   have hp:=jE (w:=w2) [⟨some ⟨w.heap.size,0,none⟩,1,1,[kn]⟩,⟨ao2,ss.length,cap2,ss⟩] (by
    intro p hp;simp at hp;rcases hp with rfl | rfl
    ·exact HK1.out.below hb2
    ·exact hr2) 37
   have hcc:=jA _ 0 _ 2 _ rfl (by decide) hp (by simp [vC];omega);have HCC:=hid hcc;have HB2:=hid (Bl.step HB1.out hb2);have HSS:=hid hss;clear hv2 hb2 hr2 hp hcc hsl hss HR1 HK1;go_wp2_with fail;refine HCC.out.mono ?_;rintro e w3 ⟨v3,rfl,hv3,hb3⟩;have HB3:=hid (Bl.step (Bl.alloc HB2.out _) hb3);have HV3:=hid (hv3.lift (Bl.alloc HB2.out _).size);clear hv3 hb3 HCC;go_wp2_with fail;go_ret;exact ⟨_,rfl,by rw [<- HSS.out];simpa [vY] using HV3.out,HB3.out⟩
theorem qJk (kn:Int) (hkn:0 <= kn /\ kn <= 255) (g:Nat) (f:MLi -> List Int) (ao:Option Addr) (n cap:Nat) (xs:List (MLi)) (w:World) (h:Rx w fun w=>RdG 3 (LiR) w ao n cap xs) (he:∀ args w,(callFunc g args).run Tryz.prog w=.ok (.enter g args) w) (hn:n <= 1000)
    (hf:∀ x ∈ xs,(f x).length <= 100000000)
    (HF:∀ w cs x,x ∈ xs -> (Rx w fun w=>LiR w cs x) -> Calls Tryz.prog g #[.agg cs.toArray] w fun e w'=>∃ v,e=.returned v /\ Own 5 .u8 w.heap.size w' v (f x) /\ Below w.heap.size w w') :
    Calls Tryz.prog 68 #[.int .u8 kn,.slice ao n cap,.func (.func g) #[] #[]] w fun e w'=>∃ v,e=.returned v /\ Own 5 .u8 w.heap.size w' v (qL kn f xs) /\ Below w.heap.size w w':=by
 have hl:=h.now.len
 obtain ⟨h63,h63'⟩:=h.now.cap63
 cases xs with
 | nil =>
   simp at hl;subst hl;clear h HF hf;go_enter Tryz.func68,Tryz.ntmps68;go_wp2_with fail;go_ret;exact ⟨_,rfl,Own.nil _ _ _ _,qXh _ _⟩
 | cons x r =>
   have hn0:0 < n:=by rw [<- hl];simp
   have hne:¬ (n:Int)=0:=by omega
   have hvl:(qT f (x :: r)).length <= 100000000100:=by
    have h1:=qE 9 (n:Int);have h2:=qM f (x :: r) 100000000 hf;have h4:(x :: r).length * 100000000 <= 1000 * 100000000:=qXl _ (by omega);unfold qT;rw [hl];simp only [qW7];omega
   have es:qL kn f (x :: r)=kn :: szE (qT f (x :: r)):=rfl;rw [es];have hvec:=qQp g f ao n cap (x :: r) (w.alloc (.cells #[.int .u8 kn] 5)) (h.alloc _) he hn hf HF
   obtain ⟨vs,hvs⟩:∃ vs,vs=qT f (x :: r):=⟨_,rfl⟩
   rw [<- hvs] at hvec hvl ⊢;have HVEC:=hid hvec;clear hvec hvs es h HF hf he hl;go_enter Tryz.func68,Tryz.ntmps68;go_wp2_with fail;refine HVEC.out.mono ?_;rintro e w1 ⟨v1,rfl,hv1,hb1⟩;obtain ⟨ao1,cap1,rfl,hr1⟩:=hv1.rd;have HR1:=hid hr1;have HB1:=hid (Bl.step (Bl.alloc (Bl.refl w) _) hb1);have HK1:=hid ((Rd.built w .u8 5 kn (WalkArith.wf_u8 hkn)).below hb1);clear hv1 hb1 hr1 HVEC;go_wp2_with fail;refine (zP ao1 _ cap1 vs w1 HR1.out (by omega)).mono ?_;rintro e w2 ⟨v2,rfl,hv2,hb2⟩;obtain ⟨ao2,cap2,rfl,hr2⟩:=hv2.rd
   have hsl:(szE vs).length <= 100000000200:=by
    have h1:=qE 9 (vs.length:Int);unfold szE;simp only [qW7];omega
   obtain ⟨ss,hss⟩:∃ ss,ss=szE vs:=⟨_,rfl⟩
   rw [<- hss] at hr2 hsl ⊢
   have hp:=jE (w:=w2) [⟨some ⟨w.heap.size,0,none⟩,1,1,[kn]⟩,⟨ao2,ss.length,cap2,ss⟩] (by
    intro p hp;simp at hp;rcases hp with rfl | rfl
    ·exact HK1.out.below hb2
    ·exact hr2) 37
   have hcc:=jA _ 0 _ 2 _ rfl (by decide) hp (by simp [vC];omega);have HCC:=hid hcc;have HB2:=hid (Bl.step HB1.out hb2);have HSS:=hid hss;clear hv2 hb2 hr2 hp hcc hsl hss HR1 HK1;go_wp2_with fail;refine HCC.out.mono ?_;rintro e w3 ⟨v3,rfl,hv3,hb3⟩;have HB3:=hid (Bl.step (Bl.alloc HB2.out _) hb3);have HV3:=hid (hv3.lift (Bl.alloc HB2.out _).size);clear hv3 hb3 HCC;go_wp2_with fail;go_ret;exact ⟨_,rfl,by rw [<- HSS.out];simpa [vY] using HV3.out,HB3.out⟩
theorem qQy (kn:Int) (hkn:0 <= kn /\ kn <= 255) (g:Nat) (f:MGl -> List Int) (ao:Option Addr) (n cap:Nat) (xs:List (MGl)) (w:World) (h:Rx w fun w=>RdG 3 (GlR) w ao n cap xs) (he:∀ args w,(callFunc g args).run Tryz.prog w=.ok (.enter g args) w) (hn:n <= 1000)
    (hf:∀ x ∈ xs,(f x).length <= 100000000)
    (HF:∀ w cs x,x ∈ xs -> (Rx w fun w=>GlR w cs x) -> Calls Tryz.prog g #[.agg cs.toArray] w fun e w'=>∃ v,e=.returned v /\ Own 5 .u8 w.heap.size w' v (f x) /\ Below w.heap.size w w') :
    Calls Tryz.prog 72 #[.int .u8 kn,.slice ao n cap,.func (.func g) #[] #[]] w fun e w'=>∃ v,e=.returned v /\ Own 5 .u8 w.heap.size w' v (qL kn f xs) /\ Below w.heap.size w w':=by
 have hl:=h.now.len
 obtain ⟨h63,h63'⟩:=h.now.cap63
 cases xs with
 | nil =>
   simp at hl;subst hl;clear h HF hf;go_enter Tryz.func72,Tryz.ntmps72;go_wp2_with fail;go_ret;exact ⟨_,rfl,Own.nil _ _ _ _,qXh _ _⟩
 | cons x r =>
   have hn0:0 < n:=by rw [<- hl];simp
   have hne:¬ (n:Int)=0:=by omega
   have hvl:(qT f (x :: r)).length <= 100000000100:=by
    have h1:=qE 9 (n:Int);have h2:=qM f (x :: r) 100000000 hf;have h4:(x :: r).length * 100000000 <= 1000 * 100000000:=qXl _ (by omega);unfold qT;rw [hl];simp only [qW7];omega
   have es:qL kn f (x :: r)=kn :: szE (qT f (x :: r)):=rfl;rw [es];have hvec:=qQq g f ao n cap (x :: r) (w.alloc (.cells #[.int .u8 kn] 5)) (h.alloc _) he hn hf HF
   obtain ⟨vs,hvs⟩:∃ vs,vs=qT f (x :: r):=⟨_,rfl⟩
   rw [<- hvs] at hvec hvl ⊢;have HVEC:=hid hvec;clear hvec hvs es h HF hf he hl;go_enter Tryz.func72,Tryz.ntmps72;go_wp2_with fail;refine HVEC.out.mono ?_;rintro e w1 ⟨v1,rfl,hv1,hb1⟩;obtain ⟨ao1,cap1,rfl,hr1⟩:=hv1.rd;have HR1:=hid hr1;have HB1:=hid (Bl.step (Bl.alloc (Bl.refl w) _) hb1);have HK1:=hid ((Rd.built w .u8 5 kn (WalkArith.wf_u8 hkn)).below hb1);clear hv1 hb1 hr1 HVEC;go_wp2_with fail;refine (zP ao1 _ cap1 vs w1 HR1.out (by omega)).mono ?_;rintro e w2 ⟨v2,rfl,hv2,hb2⟩;obtain ⟨ao2,cap2,rfl,hr2⟩:=hv2.rd
   have hsl:(szE vs).length <= 100000000200:=by
    have h1:=qE 9 (vs.length:Int);unfold szE;simp only [qW7];omega
   obtain ⟨ss,hss⟩:∃ ss,ss=szE vs:=⟨_,rfl⟩
   rw [<- hss] at hr2 hsl ⊢
   have hp:=jE (w:=w2) [⟨some ⟨w.heap.size,0,none⟩,1,1,[kn]⟩,⟨ao2,ss.length,cap2,ss⟩] (by
    intro p hp;simp at hp;rcases hp with rfl | rfl
    ·exact HK1.out.below hb2
    ·exact hr2) 37
   have hcc:=jA _ 0 _ 2 _ rfl (by decide) hp (by simp [vC];omega);have HCC:=hid hcc;have HB2:=hid (Bl.step HB1.out hb2);have HSS:=hid hss;clear hv2 hb2 hr2 hp hcc hsl hss HR1 HK1;go_wp2_with fail;refine HCC.out.mono ?_;rintro e w3 ⟨v3,rfl,hv3,hb3⟩;have HB3:=hid (Bl.step (Bl.alloc HB2.out _) hb3);have HV3:=hid (hv3.lift (Bl.alloc HB2.out _).size);clear hv3 hb3 HCC;go_wp2_with fail;go_ret;exact ⟨_,rfl,by rw [<- HSS.out];simpa [vY] using HV3.out,HB3.out⟩
theorem qQz (kn:Int) (hkn:0 <= kn /\ kn <= 255) (g:Nat) (f:MEx -> List Int) (ao:Option Addr) (n cap:Nat) (xs:List (MEx)) (w:World) (h:Rx w fun w=>RdG 2 (ExR) w ao n cap xs) (he:∀ args w,(callFunc g args).run Tryz.prog w=.ok (.enter g args) w) (hn:n <= 1000)
    (hf:∀ x ∈ xs,(f x).length <= 100000000)
    (HF:∀ w cs x,x ∈ xs -> (Rx w fun w=>ExR w cs x) -> Calls Tryz.prog g #[.agg cs.toArray] w fun e w'=>∃ v,e=.returned v /\ Own 5 .u8 w.heap.size w' v (f x) /\ Below w.heap.size w w') :
    Calls Tryz.prog 74 #[.int .u8 kn,.slice ao n cap,.func (.func g) #[] #[]] w fun e w'=>∃ v,e=.returned v /\ Own 5 .u8 w.heap.size w' v (qL kn f xs) /\ Below w.heap.size w w':=by
 have hl:=h.now.len
 obtain ⟨h63,h63'⟩:=h.now.cap63
 cases xs with
 | nil =>
   simp at hl;subst hl;clear h HF hf;go_enter Tryz.func74,Tryz.ntmps74;go_wp2_with fail;go_ret;exact ⟨_,rfl,Own.nil _ _ _ _,qXh _ _⟩
 | cons x r =>
   have hn0:0 < n:=by rw [<- hl];simp
   have hne:¬ (n:Int)=0:=by omega
   have hvl:(qT f (x :: r)).length <= 100000000100:=by
    have h1:=qE 9 (n:Int);have h2:=qM f (x :: r) 100000000 hf;have h4:(x :: r).length * 100000000 <= 1000 * 100000000:=qXl _ (by omega);unfold qT;rw [hl];simp only [qW7];omega
   have es:qL kn f (x :: r)=kn :: szE (qT f (x :: r)):=rfl;rw [es];have hvec:=qQr g f ao n cap (x :: r) (w.alloc (.cells #[.int .u8 kn] 5)) (h.alloc _) he hn hf HF
   obtain ⟨vs,hvs⟩:∃ vs,vs=qT f (x :: r):=⟨_,rfl⟩
   rw [<- hvs] at hvec hvl ⊢;have HVEC:=hid hvec;clear hvec hvs es h HF hf he hl;go_enter Tryz.func74,Tryz.ntmps74;go_wp2_with fail;refine HVEC.out.mono ?_;rintro e w1 ⟨v1,rfl,hv1,hb1⟩;obtain ⟨ao1,cap1,rfl,hr1⟩:=hv1.rd;have HR1:=hid hr1;have HB1:=hid (Bl.step (Bl.alloc (Bl.refl w) _) hb1);have HK1:=hid ((Rd.built w .u8 5 kn (WalkArith.wf_u8 hkn)).below hb1);clear hv1 hb1 hr1 HVEC;go_wp2_with fail;refine (zP ao1 _ cap1 vs w1 HR1.out (by omega)).mono ?_;rintro e w2 ⟨v2,rfl,hv2,hb2⟩;obtain ⟨ao2,cap2,rfl,hr2⟩:=hv2.rd
   have hsl:(szE vs).length <= 100000000200:=by
    have h1:=qE 9 (vs.length:Int);unfold szE;simp only [qW7];omega
   obtain ⟨ss,hss⟩:∃ ss,ss=szE vs:=⟨_,rfl⟩
   rw [<- hss] at hr2 hsl ⊢
   have hp:=jE (w:=w2) [⟨some ⟨w.heap.size,0,none⟩,1,1,[kn]⟩,⟨ao2,ss.length,cap2,ss⟩] (by
    intro p hp;simp at hp;rcases hp with rfl | rfl
    ·exact HK1.out.below hb2
    ·exact hr2) 37
   have hcc:=jA _ 0 _ 2 _ rfl (by decide) hp (by simp [vC];omega);have HCC:=hid hcc;have HB2:=hid (Bl.step HB1.out hb2);have HSS:=hid hss;clear hv2 hb2 hr2 hp hcc hsl hss HR1 HK1;go_wp2_with fail;refine HCC.out.mono ?_;rintro e w3 ⟨v3,rfl,hv3,hb3⟩;have HB3:=hid (Bl.step (Bl.alloc HB2.out _) hb3);have HV3:=hid (hv3.lift (Bl.alloc HB2.out _).size);clear hv3 hb3 HCC;go_wp2_with fail;go_ret;exact ⟨_,rfl,by rw [<- HSS.out];simpa [vY] using HV3.out,HB3.out⟩
theorem qQ0 (kn:Int) (hkn:0 <= kn /\ kn <= 255) (g:Nat) (f:MEl -> List Int) (ao:Option Addr) (n cap:Nat) (xs:List (MEl)) (w:World) (h:Rx w fun w=>RdG 2 (ElR) w ao n cap xs) (he:∀ args w,(callFunc g args).run Tryz.prog w=.ok (.enter g args) w) (hn:n <= 1000)
    (hf:∀ x ∈ xs,(f x).length <= 100000000)
    (HF:∀ w cs x,x ∈ xs -> (Rx w fun w=>ElR w cs x) -> Calls Tryz.prog g #[.agg cs.toArray] w fun e w'=>∃ v,e=.returned v /\ Own 5 .u8 w.heap.size w' v (f x) /\ Below w.heap.size w w') :
    Calls Tryz.prog 76 #[.int .u8 kn,.slice ao n cap,.func (.func g) #[] #[]] w fun e w'=>∃ v,e=.returned v /\ Own 5 .u8 w.heap.size w' v (qL kn f xs) /\ Below w.heap.size w w':=by
 have hl:=h.now.len
 obtain ⟨h63,h63'⟩:=h.now.cap63
 cases xs with
 | nil =>
   simp at hl;subst hl;clear h HF hf;go_enter Tryz.func76,Tryz.ntmps76;go_wp2_with fail;go_ret;exact ⟨_,rfl,Own.nil _ _ _ _,qXh _ _⟩
 | cons x r =>
   have hn0:0 < n:=by rw [<- hl];simp
   have hne:¬ (n:Int)=0:=by omega
   have hvl:(qT f (x :: r)).length <= 100000000100:=by
    have h1:=qE 9 (n:Int);have h2:=qM f (x :: r) 100000000 hf;have h4:(x :: r).length * 100000000 <= 1000 * 100000000:=qXl _ (by omega);unfold qT;rw [hl];simp only [qW7];omega
   have es:qL kn f (x :: r)=kn :: szE (qT f (x :: r)):=rfl;rw [es];have hvec:=qQs g f ao n cap (x :: r) (w.alloc (.cells #[.int .u8 kn] 5)) (h.alloc _) he hn hf HF
   obtain ⟨vs,hvs⟩:∃ vs,vs=qT f (x :: r):=⟨_,rfl⟩
   rw [<- hvs] at hvec hvl ⊢;have HVEC:=hid hvec;clear hvec hvs es h HF hf he hl;go_enter Tryz.func76,Tryz.ntmps76;go_wp2_with fail;refine HVEC.out.mono ?_;rintro e w1 ⟨v1,rfl,hv1,hb1⟩;obtain ⟨ao1,cap1,rfl,hr1⟩:=hv1.rd;have HR1:=hid hr1;have HB1:=hid (Bl.step (Bl.alloc (Bl.refl w) _) hb1);have HK1:=hid ((Rd.built w .u8 5 kn (WalkArith.wf_u8 hkn)).below hb1);clear hv1 hb1 hr1 HVEC;go_wp2_with fail;refine (zP ao1 _ cap1 vs w1 HR1.out (by omega)).mono ?_;rintro e w2 ⟨v2,rfl,hv2,hb2⟩;obtain ⟨ao2,cap2,rfl,hr2⟩:=hv2.rd
   have hsl:(szE vs).length <= 100000000200:=by
    have h1:=qE 9 (vs.length:Int);unfold szE;simp only [qW7];omega
   obtain ⟨ss,hss⟩:∃ ss,ss=szE vs:=⟨_,rfl⟩
   rw [<- hss] at hr2 hsl ⊢
   have hp:=jE (w:=w2) [⟨some ⟨w.heap.size,0,none⟩,1,1,[kn]⟩,⟨ao2,ss.length,cap2,ss⟩] (by
    intro p hp;simp at hp;rcases hp with rfl | rfl
    ·exact HK1.out.below hb2
    ·exact hr2) 37
   have hcc:=jA _ 0 _ 2 _ rfl (by decide) hp (by simp [vC];omega);have HCC:=hid hcc;have HB2:=hid (Bl.step HB1.out hb2);have HSS:=hid hss;clear hv2 hb2 hr2 hp hcc hsl hss HR1 HK1;go_wp2_with fail;refine HCC.out.mono ?_;rintro e w3 ⟨v3,rfl,hv3,hb3⟩;have HB3:=hid (Bl.step (Bl.alloc HB2.out _) hb3);have HV3:=hid (hv3.lift (Bl.alloc HB2.out _).size);clear hv3 hb3 HCC;go_wp2_with fail;go_ret;exact ⟨_,rfl,by rw [<- HSS.out];simpa [vY] using HV3.out,HB3.out⟩
theorem qQ1 (kn:Int) (hkn:0 <= kn /\ kn <= 255) (g:Nat) (f:MCo -> List Int) (ao:Option Addr) (n cap:Nat) (xs:List (MCo)) (w:World) (h:Rx w fun w=>RdG 2 (CoR) w ao n cap xs) (he:∀ args w,(callFunc g args).run Tryz.prog w=.ok (.enter g args) w) (hn:n <= 1000)
    (hf:∀ x ∈ xs,(f x).length <= 100000000)
    (HF:∀ w cs x,x ∈ xs -> (Rx w fun w=>CoR w cs x) -> Calls Tryz.prog g #[.agg cs.toArray] w fun e w'=>∃ v,e=.returned v /\ Own 5 .u8 w.heap.size w' v (f x) /\ Below w.heap.size w w') :
    Calls Tryz.prog 78 #[.int .u8 kn,.slice ao n cap,.func (.func g) #[] #[]] w fun e w'=>∃ v,e=.returned v /\ Own 5 .u8 w.heap.size w' v (qL kn f xs) /\ Below w.heap.size w w':=by
 have hl:=h.now.len
 obtain ⟨h63,h63'⟩:=h.now.cap63
 cases xs with
 | nil =>
   simp at hl;subst hl;clear h HF hf;go_enter Tryz.func78,Tryz.ntmps78;go_wp2_with fail;go_ret;exact ⟨_,rfl,Own.nil _ _ _ _,qXh _ _⟩
 | cons x r =>
   have hn0:0 < n:=by rw [<- hl];simp
   have hne:¬ (n:Int)=0:=by omega
   have hvl:(qT f (x :: r)).length <= 100000000100:=by
    have h1:=qE 9 (n:Int);have h2:=qM f (x :: r) 100000000 hf;have h4:(x :: r).length * 100000000 <= 1000 * 100000000:=qXl _ (by omega);unfold qT;rw [hl];simp only [qW7];omega
   have es:qL kn f (x :: r)=kn :: szE (qT f (x :: r)):=rfl;rw [es];have hvec:=qQt g f ao n cap (x :: r) (w.alloc (.cells #[.int .u8 kn] 5)) (h.alloc _) he hn hf HF
   obtain ⟨vs,hvs⟩:∃ vs,vs=qT f (x :: r):=⟨_,rfl⟩
   rw [<- hvs] at hvec hvl ⊢;have HVEC:=hid hvec;clear hvec hvs es h HF hf he hl;go_enter Tryz.func78,Tryz.ntmps78;go_wp2_with fail;refine HVEC.out.mono ?_;rintro e w1 ⟨v1,rfl,hv1,hb1⟩;obtain ⟨ao1,cap1,rfl,hr1⟩:=hv1.rd;have HR1:=hid hr1;have HB1:=hid (Bl.step (Bl.alloc (Bl.refl w) _) hb1);have HK1:=hid ((Rd.built w .u8 5 kn (WalkArith.wf_u8 hkn)).below hb1);clear hv1 hb1 hr1 HVEC;go_wp2_with fail;refine (zP ao1 _ cap1 vs w1 HR1.out (by omega)).mono ?_;rintro e w2 ⟨v2,rfl,hv2,hb2⟩;obtain ⟨ao2,cap2,rfl,hr2⟩:=hv2.rd
   have hsl:(szE vs).length <= 100000000200:=by
    have h1:=qE 9 (vs.length:Int);unfold szE;simp only [qW7];omega
   obtain ⟨ss,hss⟩:∃ ss,ss=szE vs:=⟨_,rfl⟩
   rw [<- hss] at hr2 hsl ⊢
   have hp:=jE (w:=w2) [⟨some ⟨w.heap.size,0,none⟩,1,1,[kn]⟩,⟨ao2,ss.length,cap2,ss⟩] (by
    intro p hp;simp at hp;rcases hp with rfl | rfl
    ·exact HK1.out.below hb2
    ·exact hr2) 37
   have hcc:=jA _ 0 _ 2 _ rfl (by decide) hp (by simp [vC];omega);have HCC:=hid hcc;have HB2:=hid (Bl.step HB1.out hb2);have HSS:=hid hss;clear hv2 hb2 hr2 hp hcc hsl hss HR1 HK1;go_wp2_with fail;refine HCC.out.mono ?_;rintro e w3 ⟨v3,rfl,hv3,hb3⟩;have HB3:=hid (Bl.step (Bl.alloc HB2.out _) hb3);have HV3:=hid (hv3.lift (Bl.alloc HB2.out _).size);clear hv3 hb3 HCC;go_wp2_with fail;go_ret;exact ⟨_,rfl,by rw [<- HSS.out];simpa [vY] using HV3.out,HB3.out⟩
theorem qQ2 (kn:Int) (hkn:0 <= kn /\ kn <= 255) (g:Nat) (f:MDa -> List Int) (ao:Option Addr) (n cap:Nat) (xs:List (MDa)) (w:World) (h:Rx w fun w=>RdG 2 (DaR) w ao n cap xs) (he:∀ args w,(callFunc g args).run Tryz.prog w=.ok (.enter g args) w) (hn:n <= 1000)
    (hf:∀ x ∈ xs,(f x).length <= 100000000)
    (HF:∀ w cs x,x ∈ xs -> (Rx w fun w=>DaR w cs x) -> Calls Tryz.prog g #[.agg cs.toArray] w fun e w'=>∃ v,e=.returned v /\ Own 5 .u8 w.heap.size w' v (f x) /\ Below w.heap.size w w') :
    Calls Tryz.prog 80 #[.int .u8 kn,.slice ao n cap,.func (.func g) #[] #[]] w fun e w'=>∃ v,e=.returned v /\ Own 5 .u8 w.heap.size w' v (qL kn f xs) /\ Below w.heap.size w w':=by
 have hl:=h.now.len
 obtain ⟨h63,h63'⟩:=h.now.cap63
 cases xs with
 | nil =>
   simp at hl;subst hl;clear h HF hf;go_enter Tryz.func80,Tryz.ntmps80;go_wp2_with fail;go_ret;exact ⟨_,rfl,Own.nil _ _ _ _,qXh _ _⟩
 | cons x r =>
   have hn0:0 < n:=by rw [<- hl];simp
   have hne:¬ (n:Int)=0:=by omega
   have hvl:(qT f (x :: r)).length <= 100000000100:=by
    have h1:=qE 9 (n:Int);have h2:=qM f (x :: r) 100000000 hf;have h4:(x :: r).length * 100000000 <= 1000 * 100000000:=qXl _ (by omega);unfold qT;rw [hl];simp only [qW7];omega
   have es:qL kn f (x :: r)=kn :: szE (qT f (x :: r)):=rfl;rw [es];have hvec:=qQu g f ao n cap (x :: r) (w.alloc (.cells #[.int .u8 kn] 5)) (h.alloc _) he hn hf HF
   obtain ⟨vs,hvs⟩:∃ vs,vs=qT f (x :: r):=⟨_,rfl⟩
   rw [<- hvs] at hvec hvl ⊢;have HVEC:=hid hvec;clear hvec hvs es h HF hf he hl;go_enter Tryz.func80,Tryz.ntmps80;go_wp2_with fail;refine HVEC.out.mono ?_;rintro e w1 ⟨v1,rfl,hv1,hb1⟩;obtain ⟨ao1,cap1,rfl,hr1⟩:=hv1.rd;have HR1:=hid hr1;have HB1:=hid (Bl.step (Bl.alloc (Bl.refl w) _) hb1);have HK1:=hid ((Rd.built w .u8 5 kn (WalkArith.wf_u8 hkn)).below hb1);clear hv1 hb1 hr1 HVEC;go_wp2_with fail;refine (zP ao1 _ cap1 vs w1 HR1.out (by omega)).mono ?_;rintro e w2 ⟨v2,rfl,hv2,hb2⟩;obtain ⟨ao2,cap2,rfl,hr2⟩:=hv2.rd
   have hsl:(szE vs).length <= 100000000200:=by
    have h1:=qE 9 (vs.length:Int);unfold szE;simp only [qW7];omega
   obtain ⟨ss,hss⟩:∃ ss,ss=szE vs:=⟨_,rfl⟩
   rw [<- hss] at hr2 hsl ⊢
   have hp:=jE (w:=w2) [⟨some ⟨w.heap.size,0,none⟩,1,1,[kn]⟩,⟨ao2,ss.length,cap2,ss⟩] (by
    intro p hp;simp at hp;rcases hp with rfl | rfl
    ·exact HK1.out.below hb2
    ·exact hr2) 37
   have hcc:=jA _ 0 _ 2 _ rfl (by decide) hp (by simp [vC];omega);have HCC:=hid hcc;have HB2:=hid (Bl.step HB1.out hb2);have HSS:=hid hss;clear hv2 hb2 hr2 hp hcc hsl hss HR1 HK1;go_wp2_with fail;refine HCC.out.mono ?_;rintro e w3 ⟨v3,rfl,hv3,hb3⟩;have HB3:=hid (Bl.step (Bl.alloc HB2.out _) hb3);have HV3:=hid (hv3.lift (Bl.alloc HB2.out _).size);clear hv3 hb3 HCC;go_wp2_with fail;go_ret;exact ⟨_,rfl,by rw [<- HSS.out];simpa [vY] using HV3.out,HB3.out⟩
open Go.RowKit
def IsG {α:Type} (s:Nat) (R:World -> List Value -> α -> Prop) (xs:List α):Value -> World -> Prop:=fun v w=>∃ ao cap,v=.slice ao xs.length cap /\ Rx w fun w=>RdG s R w ao xs.length cap xs
theorem qB.g {α:Type} (s:Nat) (R:World -> List Value -> α -> Prop) (xs:List α):qB (IsG s R xs):=fun _ _ _ ⟨ao,cap,e,h⟩ hb=>⟨ao,cap,e,h.below hb⟩
theorem j9 (n:Int):(jG n).length <= 100000000:=qXk (qE 9 n) (by decide)
theorem qBv (k:Int) (w:World):Calls Tryz.prog 134 #[.int .i64 k] w fun e w'=>∃ v,e=.returned v /\ Own 5 .u8 w.heap.size w' v (kE k) /\ Below w.heap.size w w':=by
 by_cases h:k=2
 ·subst h
  go_enter Tryz.func134,Tryz.ntmps134;go_wp2_with fail;go_ret;exact ⟨_,rfl,jK w .u8 5 [126] (by decide) (by decide),Bl.alloc (Bl.refl w) _⟩
 ·have h':(k == 2)=false:=by simp [h]
  have e:kE k=[127]:=by simp [kE,kB,h]
  rw [e];go_enter Tryz.func134,Tryz.ntmps134;go_wp2_with fail;go_ret;exact ⟨_,rfl,jK w .u8 5 [127] (by decide) (by decide),Bl.alloc (Bl.refl w) _⟩
theorem qNt (b:Bool) (w:World):Calls Tryz.prog 140 #[.bool b] w fun e w'=>∃ v,e=.returned v /\ Own 5 .u8 w.heap.size w' v [muB b] /\ Below w.heap.size w w':=by
 cases b
 ·go_enter Tryz.func140,Tryz.ntmps140
  go_wp2_with fail;go_ret;exact ⟨_,rfl,jK w .u8 5 [0] (by decide) (by decide),Bl.alloc (Bl.refl w) _⟩
 ·go_enter Tryz.func140,Tryz.ntmps140
  go_wp2_with fail;go_ret;exact ⟨_,rfl,jK w .u8 5 [1] (by decide) (by decide),Bl.alloc (Bl.refl w) _⟩
theorem qBw (s:ByteArray) (w:World) (hs:s.size <= 1000):Calls Tryz.prog 136 #[.string s] w fun e w'=>∃ v,e=.returned v /\ Own 5 .u8 w.heap.size w' v (nmE s) /\ Below w.heap.size w w':=by
 obtain ⟨cap,w1,hconv,hr,hb⟩:=qBu s w (by omega);have HRR:=hid hr;have HB:=hid hb;clear hr hb;go_enter Tryz.func136,Tryz.ntmps136;go_wp2_with fail;refine (zP _ _ _ _ w1 HRR.out (by omega)).mono ?_;rintro e w2 ⟨v,rfl,hv,hb⟩;have HV:=hid (hv.lift HB.out.size);have HB2:=hid (Bl.step HB.out hb);clear hv hb hconv;go_wp2_with fail;go_ret;exact ⟨_,rfl,HV.out,HB2.out⟩
theorem qH7 (k n:Int) (h:uX k n=true):uN (if k=2 then 66 else 65) n 0 []=true:=by
 unfold uX at h;by_cases h1:k=1
 ·subst h1
  simp at h;have:sh 65=8:=by decide
  simp [uN,this,q9,zU,zY,h]
 ·rw [if_neg h1] at h
  have h2:k=2:=by simpa using h
  subst h2;have:sh 66=9:=by decide
  simp [uN,this,q9,zU,zY]
theorem yC (k n:Int):(qBk k n).length <= 100000000:=by
 have h:=xJ (sh (if k=2 then 66 else 65)) n 0 [] (by decide);simp [qBk,uW];omega
theorem qAc (k n:Int) (w:World) (h:uX k n=true) (hn:-9223372036854775808 <= n /\ n <= 9223372036854775807):Calls Tryz.prog 141 #[.agg #[.int .i64 k,.int .i64 n]] w fun e w'=>∃ v,e=.returned v /\ Own 5 .u8 w.heap.size w' v (qBk k n) /\ Below w.heap.size w w':=by
 have hm:=qH7 k n h;have hcl:=yC k n;unfold qBk at hcl ⊢
 obtain ⟨o,ho⟩:∃ o:Int,(if k=2 then 66 else 65)=o:=⟨_,rfl⟩
 rw [ho] at hm hcl ⊢;have hput:=qRp none 0 0 [] o n 0 none 0 0 [] (w.alloc (.cells #[.int .i64 k,.int .i64 n] 56)) hm hn (Rd.empty _ _) (by decide) (Rd.empty _ _);rw [List.nil_append] at hput
 obtain ⟨bs,hbs⟩:∃ bs,bs=uW o n 0 []:=⟨_,rfl⟩
 rw [<- hbs] at hput hcl ⊢;have hbl:bs.length <= 100000000:=by simp at hcl;omega
 have HP:=hid hput;clear hput hm h hbs hcl;by_cases h2:k=2
 ·subst h2
  rw [if_pos rfl] at ho;subst ho;go_enter Tryz.func141,Tryz.ntmps141;go_wp2_with fail;refine HP.out.mono ?_;rintro e w1 ⟨v,rfl,hv,hb⟩;have HV:=hid (hv.lift (Bl.alloc (Bl.refl w) _).size);have HB:=hid (Bl.step (Bl.alloc (Bl.refl w) _) hb);clear hv hb HP
  go_wp2_with (at_builtin;refine qA rfl (.tmp 11) (.tmp 12) 37 rfl 5 .u8 w.heap.size 1 Tryz.underlying37 qG _ bs rfl (HV.out.alloc _) (some ⟨w1.heap.size,0,none⟩) 1 1 [11] rfl (Rd.built _ _ _ _ (by decide)) (by omega) (by omega) (Bl.alloc HB.out _).size ?_;intro v2 w2 h3 h4 _)
  go_ret;exact ⟨_,rfl,h3,(Bl.alloc HB.out _).trans h4⟩
 ·rw [if_neg h2] at ho
  subst ho;have h2':(k == 2)=false:=by simp [h2]
  go_enter Tryz.func141,Tryz.ntmps141;go_wp2_with fail;refine HP.out.mono ?_;rintro e w1 ⟨v,rfl,hv,hb⟩;have HV:=hid (hv.lift (Bl.alloc (Bl.refl w) _).size);have HB:=hid (Bl.step (Bl.alloc (Bl.refl w) _) hb);clear hv hb HP
  go_wp2_with (at_builtin;refine qA rfl (.tmp 11) (.tmp 12) 37 rfl 5 .u8 w.heap.size 1 Tryz.underlying37 qG _ bs rfl (HV.out.alloc _) (some ⟨w1.heap.size,0,none⟩) 1 1 [11] rfl (Rd.built _ _ _ _ (by decide)) (by omega) (by omega) (Bl.alloc HB.out _).size ?_;intro v2 w2 h3 h4 _)
  go_ret;exact ⟨_,rfl,h3,(Bl.alloc HB.out _).trans h4⟩
theorem qGt (n:Int) (w:World) (h:j6 n=true):Calls Tryz.prog 144 #[.int .i64 n] w fun e w'=>∃ v,e=.returned v /\ Own 5 .u8 w.heap.size w' v (qBk 1 n) /\ Below w.heap.size w w':=by
 have h1:-2147483648 <= n /\ n <= 2147483647:=by simpa [j6] using h
 have hp:=fun w=>qAc 1 n w (by simp [uX];exact h1) (by omega)
 have HP:=hid hp;clear h hp;go_enter Tryz.func144,Tryz.ntmps144;go_wp2_with fail;refine (HP.out w).mono ?_;rintro e w1 ⟨v,rfl,hv,hb⟩;have HV:=hid hv;have HB:=hid hb;clear hv hb;go_wp2_with fail;go_ret;exact ⟨_,rfl,HV.out,HB.out⟩
open Go.RowKit
def uD:List (Int × Int) -> Int -> List (Int × Int)
 | [],k=>[(1,k)]
 | [x],k=>if x.2=k then [(x.1 + 1,x.2)] else [x,(1,k)]
 | x :: y :: q,k=>x :: uD (y :: q) k
theorem qK7 (x:Int × Int) (q:List (Int × Int)) (k:Int) (h:q ≠ []):uD (x :: q) k=x :: uD q k:=by
 cases q with
 | nil=>exact absurd rfl h
 | cons y q=>rfl
theorem uR (k:Int) (x:Int × Int):∀ S:List (Int × Int),uD (S ++ [x]) k=if x.2=k then S ++ [(x.1 + 1,x.2)] else S ++ [x] ++ [(1,k)]
 | []=>by simp only [List.nil_append,uD];split <;> rfl
 | y :: r=>by
   rw [List.cons_append,qK7 _ _ _ (by simp),uR k x r];split <;> simp
def qBb (a:Int) (R:List (Int × Int)):List (Int × Int):=match R with
 | (n,k') :: q=>if a=k' then (n + 1,a) :: q else (1,a) :: (n,k') :: q
 | []=>[(1,a)]
theorem qDg (a:Int) (r:List Int):zV (a :: r)=qBb a (zV r):=by
 show (match zV r with | (n,k') :: q=>if a=k' then (n + 1,a) :: q else (1,a) :: (n,k') :: q | []=>[(1,a)])=_;unfold qBb;rfl
theorem c_r (a k:Int) (R:List (Int × Int)):qBb a (uD R k)=uD (qBb a R) k:=by
 match R with
 | [] =>
   by_cases e:a=k
   ·subst e;simp [uD,qBb]
   ·simp [uD,qBb,e]
 | [(n,k')] =>
   by_cases e:a=k'
   ·subst e
    by_cases e2:a=k
    ·subst e2;simp [uD,qBb]
    ·simp [uD,qBb,e2]
   ·by_cases e2:k'=k
    ·subst e2;simp [uD,qBb,e]
    ·simp [uD,qBb,e,e2]
 | (n,k') :: y :: q =>
   by_cases e:a=k'
   ·subst e;simp [uD,qBb]
   ·simp [uD,qBb,e]
theorem qBc (k:Int):∀ l:List Int,zV (l ++ [k])=uD (zV l) k
 | []=>rfl
 | a :: r=>by rw [List.cons_append,qDg,qBc k r,qDg,c_r]
theorem qH8 (l:List Int):∀ r ∈ zV l,1 <= r.1 /\ r.1 <= l.length:=by
 intro r h;refine ⟨qCl l r h,?_⟩;have h2:=vJ l;obtain ⟨s,t,e⟩:=List.append_of_mem h;rw [e] at h2;have:=congrArg List.length h2;simp [zI] at this;omega
theorem uE {P:Program} {w:World} {E:TypeId} {s B:Nat} {v:Value} {rs:List (List Value)} {ops:Array Oper} {rest:List Oper} {o:Oper} {a:Act} {Q:Exit -> Act -> World -> Prop} (hgd:o.guard=none) (so xo:Operand) (t:TypeId)
    (ho:o.op=.call { callee:=.builtin .append,args:=#[so,xo],argTypes:=#[t,t] })
    (bytes:Nat) (z:Value) (ht:P.underlying t=some (.slice E)) (hi:(P.info? E).map (fun i=>(i.zero,i.size,i.bytes))=some (some z,s,bytes)) (hzs:z.cells.size=s) (hsz:0 < s)
    (hs:a.eval so=v) (h:OwnC E s B w v rs) (hB:B <= w.heap.size)
    (q:Nat) (cs:List Value) (hx:a.eval xo=.slice (some ⟨q,0,none⟩) 1 1) (hcs:cs.length=s) (hnews:∀ j u,cs[j]?=some u -> w.cell? ⟨q,j,none⟩=some u) (h1:∀ u ∈ cs,u.oneCell'=true)
    (h63:rs.length + 1 <= 4611686018427387904) (hbytes:(rs.length + 1) * bytes <= 140737488355328)
    (hk:∀ v' w',OwnC E s B w' v' (rs ++ [cs]) -> w.grownBy w' v.ownBlock -> wpList P ops Q rest (a.put o.dst v') w'):wpList P ops Q (o :: rest) a w:=by
 obtain ⟨i,hi0,hz,his,hby⟩:=info_parts hi
 refine wpList_append_lies _ hgd so xo t ho B E i z s bytes ht hi0 hz his hby hzs hsz v rs.length rs.flatten hs h.row ⟨q,0,none⟩ 1 1 cs hx (by rw [hcs,Nat.one_mul]) (fun j u hu=>by rw [Addr.add_lit,Nat.zero_add];exact hnews j u hu) h1 (by decide) (by unfold maxLen;omega) hbytes hB w.heap.size rfl ?_
 intro g cap w' o1 o2 _ _
 exact hk _ _ (OwnC.snoc cs hcs h.wid rfl o1) o2
def ruC (r:Int × Int):List Value:=[.int .i64 r.1,.int .i64 r.2]
theorem qNu:(Tryz.prog.info? 184).map (fun i=>(i.zero,i.size,i.bytes))=some (some (.agg #[.int .i64 0,.int .i64 0]),2,16):=by kernel_rfl
theorem qNv {B:Nat} {w:World} {v:Value} {rs:List (Int × Int)} (h:OwnC 184 2 B w v (rs.map ruC)):OwnG 184 2 RuR B w v rs:=by
 refine ⟨rs.map ruC,by simp,h,fun i cs x h1 h2=>Bx.pure ?_⟩;rw [List.getElem?_map,h2] at h1;simp at h1;exact h1.symm
theorem qTn (ao:Option Addr) (n cap:Nat) (xs:List Int) (w:World) (h:Rd .i64 w ao n cap xs) (hn:n <= 1000) :
    Calls Tryz.prog 147 #[.slice ao n cap] w fun e w'=>∃ v,e=.returned v /\ OwnG 184 2 RuR w.heap.size w' v (zV xs) /\ Below w.heap.size w w':=by
 have H:=hid h
 have Hl:=hid h.len
 have hc:=h.cap63
 clear h
 go_enter Tryz.func147,Tryz.ntmps147
 go_wp2_with fail
 go_loopw [3,5,6,9] (fun v _ _ i wr=>∃ k:Nat,k <= n /\ i=.int .i64 k /\ OwnC 184 2 w.heap.size wr v ((zV (xs.take k)).map ruC) /\ Below w.heap.size w wr) (fun _ _ _ i _=>n - (intOf i).toNat)
 case atStart=>exact ⟨0,qXf _,rfl,OwnC.nil _ _ _ _,qXh _ _⟩
 case round =>
  obtain ⟨k,hkn,rfl,ho,hb⟩:=hrel;have hsz:=hb.size;have HO:=hid ho;have HB:=hid hb;clear ho hb;by_cases hk:k < n
  ·have hkl:k < xs.length:=by rw [Hl.out];exact hk
   obtain ⟨b,off,rfl,hcc⟩:=(H.out.below HB.out).at (by omega)
   have hck:=hcc k hk
   have hs:zV (xs.take (k + 1))=uD (zV (xs.take k)) (xs.getD k 0):=by
    rw [List.take_succ_eq_append_getElem hkl,qBc];simp [List.getD,hkl]
   have hle:=qH8 (xs.take k);have hll:=qBa (xs.take k)
   obtain ⟨x,hx⟩:∃ x,x=xs.getD k 0:=⟨_,rfl⟩
   rw [<- hx] at hck hs
   have hm30:(zV (xs.take k)).length <= 1000:=by
    have:(xs.take k).length <= k:=List.length_take_le _ _;omega
   have HS:=hid hs
   obtain ⟨R,hR⟩:∃ R,R=zV (xs.take k):=⟨_,rfl⟩
   rw [<- hR] at HO HS hle hm30
   have hle2:∀ r ∈ R,1 <= r.1 /\ r.1 <= 1000:=fun r hr=>by
    have h1:=hle r hr;have:(xs.take k).length <= k:=List.length_take_le _ _;omega
   have HLE:=hid hle2;clear hcc hs hx hle hll hR hle2;obtain ⟨vo,vc,rfl,hv1,hv2,hv3⟩:=HO.out.shape;simp only [List.length_map] at hv1 hv3 HO ⊢;have HLT:=hid HO.out.lt;rcases List.eq_nil_or_concat R with hR0 | ⟨S,⟨c,y⟩,hR0⟩
   ·subst hR0
    have HS2:Hid (zV (xs.take (k + 1))=[(1,x)]):=hid HS.out;simp only [qXq] at HO hv1 HLT ⊢;clear hv3 HS
    go_wp2_with (at_builtin;apply jF)
    refine hid ?_;refine uE rfl (.tmp 35) (.tmp 38) 185 rfl 16 _ Tryz.underlying185 qNu rfl (by decide) rfl (HO.out.alloc (.cells #[.int .i64 1,.int .i64 x] 184)) (Bl.alloc HB.out _).size wr.heap.size [.int .i64 1,.int .i64 x] rfl rfl (fun j u hu=>(Cel.new wr [.int .i64 1,.int .i64 x] 184).cell j u hu) (by simp [Value.oneCell']) (by simp) (by simp) ?_;intro v2 w2 o1 o2;have HO2:=hid o1;have HB2:=hid (xB HB.out (Bl.alloc (Bl.refl wr) (.cells #[.int .i64 1,.int .i64 x] 184)) o2 (fun b hb=>(HLT.out b hb).1) hsz);clear o1 o2 HO HLT;go_wp2_with fail;go_roundw
    case rel =>
     refine ⟨k + 1,by omega,by go_num,?_,HB2.out⟩;rw [HS2.out];exact HO2.out
    case measure=>simp [intOf];omega
   ·rw [List.concat_eq_append] at hR0
    subst hR0;obtain ⟨g,rfl⟩:=hv3 (by simp);have hs2:=HS.out;rw [uR] at hs2;simp only at hs2
    obtain ⟨m,hm⟩:∃ m,m=S.length:=⟨_,rfl⟩
    have hM:(S ++ [(c,y)]).length=m + 1:=by simp [hm]
    have hcy:1 <= c /\ c <= 1000:=HLE.out (c,y) (by simp)
    have hgd:((S ++ [(c,y)]).map ruC).getD m []=[.int .i64 c,.int .i64 y]:=by
     rw [hm];simp [List.getD,ruC]
    obtain ⟨c0,f0,hgl,hgB⟩:=HO.out.cell m 0 (u:=.int .i64 c) (by simp [hm]) (by rw [hgd];rfl);obtain ⟨c1,_,_,_⟩:=HO.out.cell m 1 (u:=.int .i64 y) (by simp [hm]) (by rw [hgd];rfl);rw [qXd] at c0 f0;rw [hM] at HO hv1 hm30 HLT ⊢
    obtain ⟨M,hMM⟩:∃ M,M=m + 1:=⟨_,rfl⟩
    rw [<- hMM] at HO hv1 hm30 HLT ⊢;have e1:((M:Nat):Int) - 1=(m:Int):=by omega
    have e2:IntKind.i64.wrap (((M:Nat):Int) - 1)=(m:Int):=by rw [e1];exact IntWalk.i64_in _ (by omega)
    have hmM:m < M:=by omega
    have HM:=hid (show m < (S ++ [(c,y)]).length by omega);have HGD:=hid hgd;have HMS:=hid hm;clear hgd hM hMM hm HLE hv3 HS;by_cases hy:y=x
    ·subst hy
     rw [if_pos rfl] at hs2;have HS2:=hid hs2;have hset:=HO.out.set m 0 (.int .i64 (c + 1)) (by simpa using HM.out) (by decide);rw [qXd] at hset;have HSET:=hid hset;have hbs:Below w.heap.size w (wr.setCell ⟨g,m * 2,none⟩ (.int .i64 (c + 1))):=Below.setCell HB.out hgB _;have HBS:=hid hbs;clear hs2 hset hbs;go_wp2_with fail;go_roundw
     case rel =>
      refine ⟨k + 1,by omega,by go_num,?_,HBS.out⟩;rw [HS2.out];have:=HSET.out;rw [HGD.out] at this
      have e:((S ++ [(c,y)]).map ruC).set m ([.int .i64 c,.int .i64 y].set 0 (.int .i64 (c + 1)))=(S ++ [(c + 1,y)]).map ruC:=by
       rw [HMS.out];simp [ruC]
      rw [e] at this;exact this
     case measure=>simp [intOf];omega
    ·rw [if_neg hy] at hs2
     have HS2:=hid hs2;have hy':(y == x)=false:=by simp [hy]
     clear hs2
     go_wp2_with (at_builtin;apply jF)
     refine hid ?_;refine uE rfl (.tmp 35) (.tmp 38) 185 rfl 16 _ Tryz.underlying185 qNu rfl (by decide) rfl (HO.out.alloc (.cells #[.int .i64 1,.int .i64 x] 184)) (Bl.alloc HB.out _).size wr.heap.size [.int .i64 1,.int .i64 x] rfl rfl (fun j u hu=>(Cel.new wr [.int .i64 1,.int .i64 x] 184).cell j u hu) (by simp [Value.oneCell']) (by have:=HMS.out;simp;omega) (by have:=HMS.out;simp;omega) ?_;intro v2 w2 o1 o2;have HO2:=hid o1;have HB2:=hid (xB HB.out (Bl.alloc (Bl.refl wr) (.cells #[.int .i64 1,.int .i64 x] 184)) o2 (fun b hb=>(HLT.out b hb).1) hsz);clear o1 o2 HO HLT;go_wp2_with fail;go_roundw
     case rel =>
      refine ⟨k + 1,by omega,by go_num,?_,HB2.out⟩;rw [HS2.out];simpa [ruC] using HO2.out
     case measure=>simp [intOf];omega
  ·have e0:k=n:=by omega
   subst e0;have ht:xs.take k=xs:=qW9 (by rw [Hl.out];exact qW8 _);have ha:=HO.out;rw [ht] at ha;have HA2:=hid ha;clear ht ha HO;go_wp2_with fail;exact bodyPost_ret (v:=u3) (by simp [results,Tryz.results147,go_sem]) rfl ⟨_,rfl,qNv HA2.out,HB.out⟩
open Go.RowKit
theorem qK8 (k:Int) (w:World):Calls Tryz.prog 151 #[.int .i64 k] w fun e w'=>e=.returned (.bool (yG k)) /\ Below w.heap.size w w':=by
 go_enter Tryz.func151,Tryz.ntmps151;go_wp2
 all_goals (go_ret;exact ⟨by simp_all [yG],qXh _ _⟩)
theorem uF (k:Int) (w:World):Calls Tryz.prog 87 #[.int .i64 k] w fun e w'=>e=.returned (.bool (jQ k)) /\ Below w.heap.size w w':=by
 go_enter Tryz.func87,Tryz.ntmps87;go_wp2
 all_goals (go_ret;exact ⟨by (simp_all [jQ]) <;> omega,qXh _ _⟩)
theorem qK9 (k:Int) (w:World):Calls Tryz.prog 182 #[.int .u8 k] w fun e w'=>e=.returned (.bool (qBt k)) /\ Below w.heap.size w w':=by
 go_enter Tryz.func182,Tryz.ntmps182;go_wp2
 all_goals (go_ret;exact ⟨by (simp_all [qBt]) <;> omega,qXh _ _⟩)
theorem qGu (k:Int) (w:World):Calls Tryz.prog 154 #[.int .i64 k] w fun e w'=>e=.returned (.bool (j6 k)) /\ Below w.heap.size w w':=by
 go_enter Tryz.func154,Tryz.ntmps154;go_wp2
 all_goals (go_ret;exact ⟨by (simp_all [j6]) <;> omega,qXh _ _⟩)
theorem qB8 (h:Bool) (x y a b:Int) (w:World):Calls Tryz.prog 88 #[.agg #[.bool h,.int .i64 x,.int .i64 y],.int .i64 a,.int .i64 b] w fun e w'=>e=.returned (.bool (zS ⟨h,x,y⟩ a b)) /\ Below w.heap.size w w':=by
 have hs:∀ w,(binOp .eql 26 (.agg #[.bool false,.int .i64 x,.int .i64 y]) (.agg #[.bool false,.int .i64 0,.int .i64 0])).run Tryz.prog w=.ok (.bool (x == 0 && y == 0)) w:=by
  intro w;go_simp;by_cases h:x=0
  ·by_cases h':y=0
   ·simp [h,h']
   ·simp [h,h']
  ·simp [h]
 cases h
 ·go_enter Tryz.func88,Tryz.ntmps88
  go_wp2;go_ret;exact ⟨by simp [zS],Bl.alloc (Bl.refl w) _⟩
 ·go_enter Tryz.func88,Tryz.ntmps88
  go_wp2
  all_goals (go_ret;exact ⟨by (simp_all [zS]) <;> omega,Bl.alloc (Bl.refl w) _⟩)
theorem qLa:∀ args w,(callFunc 182 args).run Tryz.prog w=.ok (.enter 182 args) w:=enters_of Tryz.func182 (by kernel_rfl) rfl
theorem qNw (s:ByteArray) (h:¬ (1 <= s.size /\ s.size <= 16)):zF s=false:=by
 unfold zF;by_cases h1:1 <= s.size
 ·have:¬ s.size <= 16:=fun h2=>h ⟨h1,h2⟩
  simp [this]
 ·simp [h1]
theorem qNx (s:ByteArray) (h:1 <= s.size /\ s.size <= 16):zF s=(nb s).all qBt:=by simp [zF,h.1,h.2]
theorem qBx (s:ByteArray) (w:World):Calls Tryz.prog 152 #[.string s] w fun e w'=>e=.returned (.bool (zF s)) /\ Below w.heap.size w w':=by
 by_cases h:1 <= s.size /\ s.size <= 16
 ·obtain ⟨h1,h2⟩:=h
  rw [qNx s ⟨h1,h2⟩];obtain ⟨cap,w1,hconv,hr,hb⟩:=qBu s w (by omega);have h1':(1:Int) <= s.size:=by omega
  have h2':(s.size:Int) <= 16:=by omega
  have HRR:=hid hr;have HB:=hid hb;clear hr hb;go_enter Tryz.func152,Tryz.ntmps152;go_wp2_with fail;refine (qTl 182 qBt _ _ _ (nb s) w1 (HRR.out.rx.imp fun _ h=>h.ints) qLa ?_).mono ?_
  ·intro w cs x _ hR
   obtain ⟨rfl,_⟩:=hR.now;exact qK9 x w
  ·rintro e w2 ⟨rfl,hb2⟩
   have HB2:=hid (Bl.step HB.out hb2);clear hb2 hconv;go_wp2_with fail;go_ret;exact ⟨rfl,HB2.out⟩
 ·rw [qNw s h]
  by_cases h1:1 <= s.size
  ·have h2:¬ s.size <= 16:=fun h2=>h ⟨h1,h2⟩
   have h1':(1:Int) <= s.size:=by omega
   have h2':¬ (s.size:Int) <= 16:=by omega
   clear h;go_enter Tryz.func152,Tryz.ntmps152;go_wp2_with fail;go_ret;exact ⟨rfl,qXh _ _⟩
  ·have h1':¬ (1:Int) <= s.size:=by omega
   clear h;go_enter Tryz.func152,Tryz.ntmps152;go_wp2_with fail;go_ret;exact ⟨rfl,qXh _ _⟩
open Go.RowKit
theorem qLb:∀ args w,(callFunc 151 args).run Tryz.prog w=.ok (.enter 151 args) w:=enters_of Tryz.func151 (by kernel_rfl) rfl
theorem qGv:∀ args w,(callFunc 87 args).run Tryz.prog w=.ok (.enter 87 args) w:=enters_of Tryz.func87 (by kernel_rfl) rfl
theorem qNy:∀ args w,(callFunc 186 args).run Tryz.prog w=.ok (.enter 186 args) w:=enters_of Tryz.func186 (by kernel_rfl) rfl
theorem qAn (ao:Option Addr) (n cap:Nat) (xs:List Int) (w:World) (h:Rd .i64 w ao n cap xs) :
    Calls Tryz.prog 86 #[.slice ao n cap,.func (.func 151) #[] #[]] w fun e w'=>e=.returned (.bool (xs.all yG)) /\ Below w.heap.size w w' :=
 qNs _ yG ao n cap xs w (h.rx.imp fun _ h=>h.ints) qLb fun w cs x _ hR=>by
  obtain ⟨rfl,_⟩:=hR.now;exact qK8 x w
theorem qBd (ao:Option Addr) (n cap:Nat) (xs:List Int) (w:World) (h:Rd .i64 w ao n cap xs) :
    Calls Tryz.prog 86 #[.slice ao n cap,.func (.func 87) #[] #[]] w fun e w'=>e=.returned (.bool (xs.all jQ)) /\ Below w.heap.size w w' :=
 qNs _ jQ ao n cap xs w (h.rx.imp fun _ h=>h.ints) qGv fun w cs x _ hR=>by
  obtain ⟨rfl,_⟩:=hR.now;exact uF x w
theorem rb {a b:Bool} (h:b=a):Ending.returned (.bool a)=.returned (.bool b):=by rw [h]
theorem qLc (x:MTy) (cs:List Value) (w:World) (h:Rx w fun w=>TyR w cs x):Calls Tryz.prog 83 #[.agg cs.toArray] w fun e w'=>e=.returned (.bool (xL x)) /\ Below w.heap.size w w':=by
 obtain ⟨a1,n1,k1,a2,n2,k2,rfl,hr1,hr2⟩:=h.now;obtain ⟨ps,rs⟩:=x;have e1:xL ⟨ps,rs⟩=(decide (n1 <= 32) && decide (n2 <= 1) && ps.all yG && rs.all yG):=by rw [<- hr1.len,<- hr2.len];rfl
 rw [e1];have HR1:=hid hr1;have HR2:=hid hr2
 obtain ⟨t1,ht1⟩:∃ t1,ps.all yG=t1:=⟨_,rfl⟩
 rw [ht1];have HT1:=hid ht1;clear ht1
 obtain ⟨t2,ht2⟩:∃ t2,rs.all yG=t2:=⟨_,rfl⟩
 rw [ht2];have HT2:=hid ht2;clear ht2;have HC0:=hid (Cel.new w [.slice a1 n1 k1,.slice a2 n2 k2] 53);have HB0:Hid (Below w.heap.size w (w.alloc (.cells #[.slice a1 n1 k1,.slice a2 n2 k2] 53))):=hid (Bl.alloc (Bl.refl w) _);clear e1 hr1 hr2 h;go_enter Tryz.func83,Tryz.ntmps83;by_cases h1:n1 <= 32
 ·have h1i:(n1:Int) <= 32:=by omega
  by_cases h2:n2 <= 1
  ·have h2i:(n2:Int) <= 1:=by omega
   go_wp2_with fail;refine (qAn a1 n1 k1 ps _ (HR1.out.below HB0.out)).mono ?_;rintro e w1 ⟨rfl,hb⟩;rw [HT1.out];have HB1:=hid (Bl.step HB0.out hb);have HC1:=hid (HC0.out.below (qW5 _) hb);clear hb
   cases t1 with
   | false =>
     go_wp2_with fail;go_ret;exact ⟨rb (by first | rfl | (rw [decide_eq_true h1,decide_eq_true h2] <;> simp;done) | (simp;done) | (simp;omega)),HB1.out⟩
   | true =>
     have c0:=HC1.out.cell 0 _ rfl;have c1:=HC1.out.cell 1 _ rfl;go_wp2_with fail;refine (qAn a2 n2 k2 rs w1 (HR2.out.below HB1.out)).mono ?_;rintro e w2 ⟨rfl,hb⟩;rw [HT2.out];have HB2:=hid (Bl.step HB1.out hb);have HC2:=hid (HC1.out.below (qW5 _) hb);clear hb;go_wp2_with fail;go_ret;exact ⟨rb (by first | rfl | (rw [decide_eq_true h1,decide_eq_true h2] <;> simp;done) | (simp;done) | (simp;omega)),HB2.out⟩
  ·have h2i:¬ (n2:Int) <= 1:=by omega
   go_wp2_with fail;go_ret;exact ⟨rb (by first | rfl | (rw [decide_eq_true h1,decide_eq_false h2] <;> simp;done) | (simp;done) | (simp;omega)),HB0.out⟩
 ·have h1i:¬ (n1:Int) <= 32:=by omega
  go_wp2_with fail;go_ret;exact ⟨rb (by first | rfl | (rw [decide_eq_false h1] <;> simp;done) | (simp;done) | (simp;omega)),HB0.out⟩
theorem qGw (x:MIm) (cs:List Value) (w:World) (h:Rx w fun w=>ImR w cs x):Calls Tryz.prog 85 #[.agg cs.toArray] w fun e w'=>e=.returned (.bool (xD x)) /\ Below w.heap.size w w':=by
 obtain rfl:=h.now;obtain ⟨m,s,t⟩:=x;have e1:xD ⟨m,s,t⟩=(zF m && zF s && jQ t):=rfl;rw [e1]
 obtain ⟨t1,ht1⟩:∃ t1,zF m=t1:=⟨_,rfl⟩
 rw [ht1];have HT1:=hid ht1;clear ht1
 obtain ⟨t2,ht2⟩:∃ t2,zF s=t2:=⟨_,rfl⟩
 rw [ht2];have HT2:=hid ht2;clear ht2
 obtain ⟨t3,ht3⟩:∃ t3,jQ t=t3:=⟨_,rfl⟩
 rw [ht3];have HT3:=hid ht3;clear ht3;have HC0:=hid (Cel.new w [.string m,.string s,.int .i64 t] 62);have HB0:Hid (Below w.heap.size w (w.alloc (.cells #[.string m,.string s,.int .i64 t] 62))):=hid (Bl.alloc (Bl.refl w) _);clear e1 h;go_enter Tryz.func85,Tryz.ntmps85;go_wp2_with fail;refine (qBx m _).mono ?_;rintro e w1 ⟨rfl,hb⟩;rw [HT1.out];have HB1:=hid (Bl.step HB0.out hb);have HC1:=hid (HC0.out.below (qW5 _) hb);clear hb
 cases t1 with
 | false =>
   go_wp2_with fail;go_ret;exact ⟨rb (by first | rfl | (simp;done) | (simp;done) | (simp;omega)),HB1.out⟩
 | true =>
   have c0:=HC1.out.cell 0 _ rfl;have c1:=HC1.out.cell 1 _ rfl;have c2:=HC1.out.cell 2 _ rfl;go_wp2_with fail;refine (qBx s w1).mono ?_;rintro e w2 ⟨rfl,hb⟩;rw [HT2.out];have HB2:=hid (Bl.step HB1.out hb);have HC2:=hid (HC1.out.below (qW5 _) hb);clear hb
   cases t2 with
   | false =>
     go_wp2_with fail;go_ret;exact ⟨rb (by first | rfl | (simp;done) | (simp;done) | (simp;omega)),HB2.out⟩
   | true =>
     have c0:=HC2.out.cell 0 _ rfl;have c1:=HC2.out.cell 1 _ rfl;have c2:=HC2.out.cell 2 _ rfl;go_wp2_with fail;refine (uF t w2).mono ?_;rintro e w3 ⟨rfl,hb⟩;rw [HT3.out];have HB3:=hid (Bl.step HB2.out hb);have HC3:=hid (HC2.out.below (qW5 _) hb);clear hb;go_wp2_with fail;go_ret;exact ⟨rb (by first | rfl | (simp;done) | (simp;done) | (simp;omega)),HB3.out⟩
theorem qGx (x:MEx) (cs:List Value) (w:World) (h:Rx w fun w=>ExR w cs x):Calls Tryz.prog 92 #[.agg cs.toArray] w fun e w'=>e=.returned (.bool (xM x)) /\ Below w.heap.size w w':=by
 obtain rfl:=h.now;obtain ⟨m,t⟩:=x;have e1:xM ⟨m,t⟩=(zF m && jQ t):=rfl;rw [e1]
 obtain ⟨t1,ht1⟩:∃ t1,zF m=t1:=⟨_,rfl⟩
 rw [ht1];have HT1:=hid ht1;clear ht1
 obtain ⟨t2,ht2⟩:∃ t2,jQ t=t2:=⟨_,rfl⟩
 rw [ht2];have HT2:=hid ht2;clear ht2;have HC0:=hid (Cel.new w [.string m,.int .i64 t] 60);have HB0:Hid (Below w.heap.size w (w.alloc (.cells #[.string m,.int .i64 t] 60))):=hid (Bl.alloc (Bl.refl w) _);clear e1 h;go_enter Tryz.func92,Tryz.ntmps92;go_wp2_with fail;refine (qBx m _).mono ?_;rintro e w1 ⟨rfl,hb⟩;rw [HT1.out];have HB1:=hid (Bl.step HB0.out hb);have HC1:=hid (HC0.out.below (qW5 _) hb);clear hb
 cases t1 with
 | false =>
   go_wp2_with fail;go_ret;exact ⟨rb (by first | rfl | (simp;done) | (simp;done) | (simp;omega)),HB1.out⟩
 | true =>
   have c0:=HC1.out.cell 0 _ rfl;have c1:=HC1.out.cell 1 _ rfl;go_wp2_with fail;refine (uF t w1).mono ?_;rintro e w2 ⟨rfl,hb⟩;rw [HT2.out];have HB2:=hid (Bl.step HB1.out hb);have HC2:=hid (HC1.out.below (qW5 _) hb);clear hb;go_wp2_with fail;go_ret;exact ⟨rb (by first | rfl | (simp;done) | (simp;done) | (simp;omega)),HB2.out⟩
theorem qLd (x:MEl) (cs:List Value) (w:World) (h:Rx w fun w=>ElR w cs x):Calls Tryz.prog 94 #[.agg cs.toArray] w fun e w'=>e=.returned (.bool (zT x)) /\ Below w.heap.size w w':=by
 obtain ⟨a1,n1,k1,rfl,hr1⟩:=h.now;obtain ⟨o,fs⟩:=x;have e1:zT ⟨o,fs⟩=(j6 o && decide (n1 <= 50) && fs.all jQ):=by rw [<- hr1.len];rfl
 rw [e1];have HR1:=hid hr1
 obtain ⟨t1,ht1⟩:∃ t1,j6 o=t1:=⟨_,rfl⟩
 rw [ht1];have HT1:=hid ht1;clear ht1
 obtain ⟨t2,ht2⟩:∃ t2,fs.all jQ=t2:=⟨_,rfl⟩
 rw [ht2];have HT2:=hid ht2;clear ht2;have HC0:=hid (Cel.new w [.int .i64 o,.slice a1 n1 k1] 67);have HB0:Hid (Below w.heap.size w (w.alloc (.cells #[.int .i64 o,.slice a1 n1 k1] 67))):=hid (Bl.alloc (Bl.refl w) _);clear e1 hr1 h;go_enter Tryz.func94,Tryz.ntmps94;go_wp2_with fail;refine (qGu o _).mono ?_;rintro e w1 ⟨rfl,hb⟩;rw [HT1.out];have HB1:=hid (Bl.step HB0.out hb);have HC1:=hid (HC0.out.below (qW5 _) hb);clear hb
 cases t1 with
 | false =>
   go_wp2_with fail;go_ret;exact ⟨rb (by first | rfl | (simp;done) | (simp;done) | (simp;omega)),HB1.out⟩
 | true =>
   have c0:=HC1.out.cell 0 _ rfl;have c1:=HC1.out.cell 1 _ rfl;by_cases h2:n1 <= 50
   ·have h2i:(n1:Int) <= 50:=by omega
    go_wp2_with fail;refine (qBd a1 n1 k1 fs w1 (HR1.out.below HB1.out)).mono ?_;rintro e w2 ⟨rfl,hb⟩;rw [HT2.out];have HB2:=hid (Bl.step HB1.out hb);have HC2:=hid (HC1.out.below (qW5 _) hb);clear hb;go_wp2_with fail;go_ret;exact ⟨rb (by first | rfl | (rw [decide_eq_true h2] <;> simp;done) | (simp;done) | (simp;omega)),HB2.out⟩
   ·have h2i:¬ (n1:Int) <= 50:=by omega
    go_wp2_with fail;go_ret;exact ⟨rb (by first | rfl | (rw [decide_eq_false h2] <;> simp;done) | (simp;done) | (simp;omega)),HB1.out⟩
theorem qLe (x:MDa) (cs:List Value) (w:World) (h:Rx w fun w=>DaR w cs x):Calls Tryz.prog 98 #[.agg cs.toArray] w fun e w'=>e=.returned (.bool (zG x)) /\ Below w.heap.size w w':=by
 obtain ⟨a1,n1,k1,rfl,hr1⟩:=h.now;obtain ⟨o,fs⟩:=x;have e1:zG ⟨o,fs⟩=(j6 o && decide (n1 <= 1000)):=by rw [<- hr1.len];rfl
 rw [e1];have HR1:=hid hr1
 obtain ⟨t1,ht1⟩:∃ t1,j6 o=t1:=⟨_,rfl⟩
 rw [ht1];have HT1:=hid ht1;clear ht1;have HC0:=hid (Cel.new w [.int .i64 o,.slice a1 n1 k1] 44);have HB0:Hid (Below w.heap.size w (w.alloc (.cells #[.int .i64 o,.slice a1 n1 k1] 44))):=hid (Bl.alloc (Bl.refl w) _);clear e1 hr1 h;go_enter Tryz.func98,Tryz.ntmps98;go_wp2_with fail;refine (qGu o _).mono ?_;rintro e w1 ⟨rfl,hb⟩;rw [HT1.out];have HB1:=hid (Bl.step HB0.out hb);have HC1:=hid (HC0.out.below (qW5 _) hb);clear hb
 cases t1 with
 | false =>
   go_wp2_with fail;go_ret;exact ⟨rb (by first | rfl | (simp;done) | (simp;done) | (simp;omega)),HB1.out⟩
 | true =>
   have c0:=HC1.out.cell 0 _ rfl;have c1:=HC1.out.cell 1 _ rfl;by_cases h2:n1 <= 1000
   ·have h2i:(n1:Int) <= 1000:=by omega
    go_wp2_with fail;go_ret;exact ⟨rb (by first | rfl | (rw [decide_eq_true h2] <;> simp;done) | (simp;done) | (simp;omega)),HB1.out⟩
   ·have h2i:¬ (n1:Int) <= 1000:=by omega
    go_wp2_with fail;go_ret;exact ⟨rb (by first | rfl | (rw [decide_eq_false h2] <;> simp;done) | (simp;done) | (simp;omega)),HB1.out⟩
theorem qNz (ao:Option Addr) (n cap:Nat) (xs:List Ins) (w:World) (h:Rx w fun w=>RdG 4 InR w ao n cap xs) :
    Calls Tryz.prog 185 #[.slice ao n cap,.func (.func 186) #[] #[]] w fun e w'=>e=.returned (.bool (xs.all zL)) /\ Below w.heap.size w w' :=
 qQm _ zL ao n cap xs w h qNy fun w cs x _ hR=>by
  obtain ⟨a1,n1,k1,rfl,hr1,_⟩:=hR.now;exact qRo x.op x.a x.b a1 n1 k1 x.l _ rfl w hr1
theorem qLf (ao:Option Addr) (n cap:Nat) (xs:List Ins) (w:World) (h:Rx w fun w=>RdG 4 InR w ao n cap xs) :
    Calls Tryz.prog 155 #[.slice ao n cap] w fun e w'=>e=.returned (.bool (qAm xs)) /\ Below w.heap.size w w':=by
 have e1:qAm xs=((qC0 (vP xs)).isSome && xs.all zL):=rfl
 rw [e1]
 have hm:=qJa _ ao n cap xs w h.now.insP
 obtain ⟨t1,ht1⟩:∃ t1,(qC0 (vP xs)).isSome=t1:=⟨_,rfl⟩
 obtain ⟨t2,ht2⟩:∃ t2,xs.all zL=t2:=⟨_,rfl⟩
 unfold qVs at hm
 rw [ht1] at hm
 rw [ht1,ht2]
 have HM:=hid hm
 have HR:=hid h
 have HT2:=hid ht2
 clear hm h ht1 ht2 e1
 go_enter Tryz.func155,Tryz.ntmps155
 go_wp2_with fail
 refine HM.out.mono ?_
 rintro e w1 ⟨v,rfl,hv,hb⟩
 have HB1:=hid hb
 have HR1:=hid (HR.out.below hb)
 clear hv hb HM HR
 cases t1 with
 | false =>
   go_wp2_with fail;go_ret;exact ⟨rfl,HB1.out⟩
 | true =>
   go_wp2_with fail;refine (qNz ao n cap xs w1 HR1.out).mono ?_;rintro e w2 ⟨rfl,hb⟩;rw [HT2.out];have HB2:=hid (Bl.step HB1.out hb);clear hb;go_wp2_with fail;go_ret;exact ⟨rfl,HB2.out⟩
theorem qLg (x:MCo) (cs:List Value) (w:World) (h:Rx w fun w=>CoR w cs x):Calls Tryz.prog 96 #[.agg cs.toArray] w fun e w'=>e=.returned (.bool (zM x)) /\ Below w.heap.size w w':=by
 have hb2:∃ a1 n1 k1 a2 n2 k2,cs=[.slice a1 n1 k1,.slice a2 n2 k2] /\ Rd .i64 w a1 n1 k1 x.ls /\ Rx w fun w=>RdG 4 InR w a2 n2 k2 x.body:=by
  obtain ⟨a1,n1,k1,a2,n2,k2,rfl,hr1,_⟩:=h.now;refine ⟨a1,n1,k1,a2,n2,k2,rfl,hr1,fun w' h'=>?_⟩;obtain ⟨_,_,_,_,_,_,e,_,hr⟩:=h w' h';simp only [List.cons.injEq,Value.slice.injEq,and_true] at e;obtain ⟨_,rfl,rfl,rfl⟩:=e;exact hr
 obtain ⟨a1,n1,k1,a2,n2,k2,rfl,hr1,hr2⟩:=hb2;obtain ⟨ls,bo⟩:=x;have e1:zM ⟨ls,bo⟩=(decide (n1 <= 32) && ls.all yG && qAm bo):=by rw [<- hr1.len];rfl
 rw [e1];have HR1:=hid hr1;have HR2:=hid hr2
 obtain ⟨t1,ht1⟩:∃ t1,ls.all yG=t1:=⟨_,rfl⟩
 rw [ht1];have HT1:=hid ht1;clear ht1
 obtain ⟨t2,ht2⟩:∃ t2,qAm bo=t2:=⟨_,rfl⟩
 rw [ht2];have HT2:=hid ht2;clear ht2;have HC0:=hid (Cel.new w [.slice a1 n1 k1,.slice a2 n2 k2] 49);have HB0:Hid (Below w.heap.size w (w.alloc (.cells #[.slice a1 n1 k1,.slice a2 n2 k2] 49))):=hid (Bl.alloc (Bl.refl w) _);clear e1 hr1 hr2 h;go_enter Tryz.func96,Tryz.ntmps96;by_cases h1:n1 <= 32
 ·have h1i:(n1:Int) <= 32:=by omega
  go_wp2_with fail;refine (qAn a1 n1 k1 ls _ (HR1.out.below HB0.out)).mono ?_;rintro e w1 ⟨rfl,hb⟩;rw [HT1.out];have HB1:=hid (Bl.step HB0.out hb);have HC1:=hid (HC0.out.below (qW5 _) hb);clear hb
  cases t1 with
  | false =>
    go_wp2_with fail;go_ret;exact ⟨rb (by first | rfl | (rw [decide_eq_true h1] <;> simp;done) | (simp;done) | (simp;omega)),HB1.out⟩
  | true =>
    have c0:=HC1.out.cell 0 _ rfl;have c1:=HC1.out.cell 1 _ rfl;go_wp2_with fail;refine (qLf a2 n2 k2 bo w1 (HR2.out.below HB1.out)).mono ?_;rintro e w2 ⟨rfl,hb⟩;rw [HT2.out];have HB2:=hid (Bl.step HB1.out hb);have HC2:=hid (HC1.out.below (qW5 _) hb);clear hb;go_wp2_with fail;go_ret;exact ⟨rb (by first | rfl | (rw [decide_eq_true h1] <;> simp;done) | (simp;done) | (simp;omega)),HB2.out⟩
 ·have h1i:¬ (n1:Int) <= 32:=by omega
  go_wp2_with fail;go_ret;exact ⟨rb (by first | rfl | (rw [decide_eq_false h1] <;> simp;done) | (simp;done) | (simp;omega)),HB0.out⟩
open Go.RowKit
abbrev av (k n:Int):Value:=.agg #[.int .i64 k,.int .i64 n]
def okv (k n:Int):Bool:=k == 2 || (k == 1 && decide (-2147483648 <= n) && decide (n < 2147483648))
def sg (k n:Int):Int:=if k=1 then (n + 2147483648) % 4294967296 - 2147483648 else (n + 9223372036854775808) % 18446744073709551616 - 9223372036854775808
theorem qQ3 (n:Int) (w:World):Calls Tryz.prog 183 #[.int .i64 1,.int .i64 n] w fun e w'=>e=.returned (av 1 (sg 1 n)) /\ Below w.heap.size w w':=by
 have e:wrap64 (wrap32 n)=sg 1 n:=by
  simp only [wrap64,wrap32,sg];simp;omega
 go_enter Tryz.func183,Tryz.ntmps183;go_wp2;go_returns;exact ⟨rfl,Bl.alloc (Bl.refl _) _⟩
theorem qQ4 (n:Int) (hn:-9223372036854775808 <= n /\ n <= 9223372036854775807) (w:World):Calls Tryz.prog 183 #[.int .i64 2,.int .i64 n] w fun e w'=>e=.returned (av 2 (sg 2 n)) /\ Below w.heap.size w w':=by
 have e:n=sg 2 n:=by
  simp only [sg];simp;omega
 rw [<- e];clear e;go_enter Tryz.func183,Tryz.ntmps183;go_wp2;go_returns;exact ⟨rfl,Bl.alloc (Bl.refl _) _⟩
theorem qN0 (k n:Int) (h1:k ≠ 1) (h2:k ≠ 2) (w:World):Calls Tryz.prog 183 #[.int .i64 k,.int .i64 n] w fun e w'=>e=.returned (av 0 0) /\ Below w.heap.size w w':=by
 have e1:(k == 1)=false:=by simp [h1]
 have e2:(k == 2)=false:=by simp [h2]
 go_enter Tryz.func183,Tryz.ntmps183;go_wp2;go_returns;exact ⟨rfl,Bl.alloc (Bl.refl _) _⟩
theorem qLh (k n k' n':Int) (w:World):(Go.binOp .eql 56 (av k n) (av k' n')).run Tryz.prog w=.ok (.bool (k == k' && n == n')) w:=by
 go_simp;by_cases h:k=k'
 ·by_cases h':n=n'
  ·simp [h,h']
  ·simp [h,h']
 ·simp [h]
theorem qFh (k n k' n':Int) (h0:k ≠ 0) (hwrap:∀ w,Calls Tryz.prog 183 #[.int .i64 k,.int .i64 n] w fun e w'=>e=.returned (av k' n') /\ Below w.heap.size w w') (w:World) :
    Calls Tryz.prog 153 #[av k n] w fun e w'=>e=.returned (.bool (k == k' && n == n')) /\ Below w.heap.size w w':=by
 have e0:(k == 0)=false:=by simp [h0]
 have e1:(k != 0)=true:=by simp [h0]
 go_enter Tryz.func153,Tryz.ntmps153
 go_wp2
 refine qK (by kernel_rfl) (by kernel_rfl) ?_
 have heq:=qLh k n k' n'
 have hbc:=fun x=>@Bw.cell (w.alloc (Obj.cells #[Value.int IntKind.i64 k,Value.int IntKind.i64 n] 56)) x
 repeat (go_big_quiet_step ((go_at_call 183;exact Calls.bw (hwrap _))))
 refine wpQuiet_nil ?_
 rintro _ ⟨x,rfl⟩
 go_wp2
 go_ret
 exact ⟨rfl,Bl.step (Bl.alloc (Bl.refl _) _) x.h⟩
theorem qTo (k n:Int) (hn:-9223372036854775808 <= n /\ n <= 9223372036854775807) (w:World):Calls Tryz.prog 153 #[av k n] w fun e w'=>e=.returned (.bool (okv k n)) /\ Below w.heap.size w w':=by
 by_cases h0:k=0
 ·subst h0
  go_enter Tryz.func153,Tryz.ntmps153;go_wp2;go_quiet (fail);go_wp2;go_ret;exact ⟨by simp [okv],Bl.step (Bl.alloc (Bl.refl _) _) (qW _ _ _)⟩
 ·have ht:∀ a b:Bool,(a=true ↔ b=true) -> Ending.returned (.bool a)=.returned (.bool b):=fun a b h=>by rw [Bool.eq_iff_iff.2 h]
  by_cases h1:k=1
  ·subst h1
   refine (qFh 1 n _ _ h0 (fun w=>qQ3 n w) w).mono ?_;rintro e w' ⟨rfl,hb⟩;refine ⟨ht _ _ ?_,hb⟩;simp [okv,sg];omega
  ·by_cases h2:k=2
   ·subst h2
    refine (qFh 2 n _ _ h0 (fun w=>qQ4 n hn w) w).mono ?_;rintro e w' ⟨rfl,hb⟩;refine ⟨ht _ _ ?_,hb⟩;simp [okv,sg];omega
   ·refine (qFh k n _ _ h0 (fun w=>qN0 k n h1 h2 w) w).mono ?_
    rintro e w' ⟨rfl,hb⟩;refine ⟨ht _ _ ?_,hb⟩;simp [okv,h0,h1,h2]
theorem qLi (k n:Int) (w:World):Calls Tryz.prog 25 #[av k n] w fun e w'=>e=.returned (.bool (okv k n)) /\ Below w.heap.size w w':=by
 unfold okv
 cases h2:k == 2
 ·cases h1:k == 1
  ·go_enter Tryz.func25,Tryz.ntmps25
   go_wp2;go_ret;exact ⟨by simp,Bl.alloc (Bl.refl _) _⟩
  ·cases h3:decide (-2147483648 <= n)
   all_goals
    go_enter Tryz.func25,Tryz.ntmps25
    go_wp2
    go_ret
    exact ⟨by simp,Bl.alloc (Bl.refl _) _⟩
 ·go_enter Tryz.func25,Tryz.ntmps25
  go_wp2;go_ret;exact ⟨by simp,Bl.alloc (Bl.refl _) _⟩
theorem qJl (k n:Int):okv k n=uX k n:=by
 unfold okv uX;by_cases h1:k=1
 ·subst h1
  rw [if_pos rfl,Bool.eq_iff_iff];simp;omega
 ·rw [if_neg h1]
  simp [h1]
theorem qGy (x:MGl) (cs:List Value) (w:World) (h:Rx w fun w=>GlR w cs x):Calls Tryz.prog 90 #[.agg cs.toArray] w fun e w'=>e=.returned (.bool (yY x)) /\ Below w.heap.size w w':=by
 obtain ⟨rfl,h1,h2⟩:=h.now;obtain ⟨m,k,n⟩:=x;have e1:yY ⟨m,k,n⟩=okv k n:=(qJl k n).symm;rw [e1];have hm:=fun w=>qTo k n ⟨h1,h2⟩ w
 have HM:=hid hm;clear e1 h h1 h2 hm;go_enter Tryz.func90,Tryz.ntmps90;go_wp2_with fail;refine (HM.out _).mono ?_;rintro e w1 ⟨rfl,hb⟩;have HB1:=hid (Bl.step (Bl.alloc (Bl.refl w) _) hb);clear hb;go_wp2_with fail;go_ret;exact ⟨rfl,HB1.out⟩
open Go.RowKit
structure Sl where
 o:Option Addr
 n:Nat
 c:Nat
structure MoV where
 t:Sl
 i:Sl
 f:Sl
 g:Sl
 e:Sl
 l:Sl
 c:Sl
 d:Sl
def MoV.cells (V:MoV) (M:MMo):List Value :=
 [.slice V.t.o V.t.n V.t.c,.slice V.i.o V.i.n V.i.c,.slice V.f.o V.f.n V.f.c,.bool M.table.has,.int .i64 M.table.mn,.int .i64 M.table.mx,.bool M.mem.has,.int .i64 M.mem.mn,.int .i64 M.mem.mx,
  .slice V.g.o V.g.n V.g.c,.slice V.e.o V.e.n V.e.c,.slice V.l.o V.l.n V.l.c,.slice V.c.o V.c.n V.c.c,.slice V.d.o V.d.n V.d.c]
structure MoR (V:MoV) (M:MMo) (w:World):Prop where
 t:RdG 2 TyR w V.t.o V.t.n V.t.c M.types
 i:RdG 3 ImR w V.i.o V.i.n V.i.c M.imports
 f:Rd .i64 w V.f.o V.f.n V.f.c M.funcs
 g:RdG 3 GlR w V.g.o V.g.n V.g.c M.globals
 e:RdG 2 ExR w V.e.o V.e.n V.e.c M.exports
 l:RdG 2 ElR w V.l.o V.l.n V.l.c M.elems
 c:RdG 2 CoR w V.c.o V.c.n V.c.c M.codes
 d:RdG 2 DaR w V.d.o V.d.n V.d.c M.datas
theorem qLj:∀ args w,(callFunc 83 args).run Tryz.prog w=.ok (.enter 83 args) w:=enters_of Tryz.func83 (by kernel_rfl) rfl
theorem qGz:∀ args w,(callFunc 85 args).run Tryz.prog w=.ok (.enter 85 args) w:=enters_of Tryz.func85 (by kernel_rfl) rfl
theorem qG0:∀ args w,(callFunc 90 args).run Tryz.prog w=.ok (.enter 90 args) w:=enters_of Tryz.func90 (by kernel_rfl) rfl
theorem qG1:∀ args w,(callFunc 92 args).run Tryz.prog w=.ok (.enter 92 args) w:=enters_of Tryz.func92 (by kernel_rfl) rfl
theorem qLk:∀ args w,(callFunc 94 args).run Tryz.prog w=.ok (.enter 94 args) w:=enters_of Tryz.func94 (by kernel_rfl) rfl
theorem qLl:∀ args w,(callFunc 96 args).run Tryz.prog w=.ok (.enter 96 args) w:=enters_of Tryz.func96 (by kernel_rfl) rfl
theorem qLm:∀ args w,(callFunc 98 args).run Tryz.prog w=.ok (.enter 98 args) w:=enters_of Tryz.func98 (by kernel_rfl) rfl
theorem qG2 (V:MoV) (M:MMo) (w:World) (h:Rx w (MoR V M)) (hI:M.imports.length <= 1000000) (hFn:M.funcs.length <= 1000000):Calls Tryz.prog 30 #[.agg (V.cells M).toArray] w fun e w'=>e=.returned (.bool (jH M)) /\ Below w.heap.size w w':=by
 have hn:=h.now;have hs1:V.i.n <= 1000000:=by rw [<- hn.i.len];exact hI
 have hs2:V.f.n <= 1000000:=by rw [<- hn.f.len];exact hFn
 have e1:jH M=(decide (V.t.n <= 16) && decide (V.i.n + V.f.n <= 16) && decide (V.g.n <= 16) && decide (V.e.n <= 16) && decide (V.l.n <= 16) && decide (V.d.n <= 16) && decide (V.c.n=V.f.n)):=by
  unfold jH;rw [hn.t.len,hn.i.len,hn.f.len,hn.g.len,hn.e.len,hn.l.len,hn.d.len,hn.c.len];rfl
 rw [e1];unfold MoV.cells;obtain ⟨⟨ot,nt,ct⟩,⟨oi,ni,ci⟩,⟨of,nf,cf⟩,⟨og,ng,cg⟩,⟨oe,ne,ce⟩,⟨ol,nl,cl⟩,⟨oc,nc,cc⟩,⟨od,nd,cd⟩⟩:=V;obtain ⟨T,I,F,⟨th,tm,tx⟩,⟨mh,mm,mx⟩,G,E,L,C,D⟩:=M;simp only at hs1 hs2 ⊢;have HC0:=hid (Cel.new w [.slice ot nt ct,.slice oi ni ci,.slice of nf cf,.bool th,.int .i64 tm,.int .i64 tx,.bool mh,.int .i64 mm,.int .i64 mx,.slice og ng cg,.slice oe ne ce,.slice ol nl cl,.slice oc nc cc,.slice od nd cd] 33);have HB0:Hid (Below w.heap.size w (w.alloc (.cells #[.slice ot nt ct,.slice oi ni ci,.slice of nf cf,.bool th,.int .i64 tm,.int .i64 tx,.bool mh,.int .i64 mm,.int .i64 mx,.slice og ng cg,.slice oe ne ce,.slice ol nl cl,.slice oc nc cc,.slice od nd cd] 33))):=hid (Bl.alloc (Bl.refl w) _);clear h hn e1 hI hFn;go_enter Tryz.func30,Tryz.ntmps30;by_cases h1:nt <= 16
 ·have h1i:(nt:Int) <= 16:=by omega
  by_cases h2:ni + nf <= 16
  ·have h2i:(ni:Int) + nf <= 16:=by omega
   by_cases h3:ng <= 16
   ·have h3i:(ng:Int) <= 16:=by omega
    by_cases h4:ne <= 16
    ·have h4i:(ne:Int) <= 16:=by omega
     by_cases h5:nl <= 16
     ·have h5i:(nl:Int) <= 16:=by omega
      by_cases h6:nd <= 16
      ·have h6i:(nd:Int) <= 16:=by omega
       by_cases h7:nc=nf
       ·obtain rfl:=h7
        go_wp2_with fail;go_ret;exact ⟨rb (by first | rfl | (rw [decide_eq_true h1,decide_eq_true h2,decide_eq_true h3,decide_eq_true h4,decide_eq_true h5,decide_eq_true h6] <;> simp;done) | (simp;done) | (simp;omega)),HB0.out⟩
       ·have h7i:¬ (nc:Int)=nf:=by omega
        have h7e:((nc:Int) == (nf:Int))=false:=by simp;omega
        go_wp2_with fail;go_ret;exact ⟨rb (by first | rfl | (rw [decide_eq_true h1,decide_eq_true h2,decide_eq_true h3,decide_eq_true h4,decide_eq_true h5,decide_eq_true h6,decide_eq_false h7] <;> simp;done) | (simp;done) | (simp;omega)),HB0.out⟩
      ·have h6i:¬ (nd:Int) <= 16:=by omega
       go_wp2_with fail;go_ret;exact ⟨rb (by first | rfl | (rw [decide_eq_true h1,decide_eq_true h2,decide_eq_true h3,decide_eq_true h4,decide_eq_true h5,decide_eq_false h6] <;> simp;done) | (simp;done) | (simp;omega)),HB0.out⟩
     ·have h5i:¬ (nl:Int) <= 16:=by omega
      go_wp2_with fail;go_ret;exact ⟨rb (by first | rfl | (rw [decide_eq_true h1,decide_eq_true h2,decide_eq_true h3,decide_eq_true h4,decide_eq_false h5] <;> simp;done) | (simp;done) | (simp;omega)),HB0.out⟩
    ·have h4i:¬ (ne:Int) <= 16:=by omega
     go_wp2_with fail;go_ret;exact ⟨rb (by first | rfl | (rw [decide_eq_true h1,decide_eq_true h2,decide_eq_true h3,decide_eq_false h4] <;> simp;done) | (simp;done) | (simp;omega)),HB0.out⟩
   ·have h3i:¬ (ng:Int) <= 16:=by omega
    go_wp2_with fail;go_ret;exact ⟨rb (by first | rfl | (rw [decide_eq_true h1,decide_eq_true h2,decide_eq_false h3] <;> simp;done) | (simp;done) | (simp;omega)),HB0.out⟩
  ·have h2i:¬ (ni:Int) + nf <= 16:=by omega
   go_wp2_with fail;go_ret;exact ⟨rb (by first | rfl | (rw [decide_eq_true h1,decide_eq_false h2] <;> simp;done) | (simp;done) | (simp;omega)),HB0.out⟩
 ·have h1i:¬ (nt:Int) <= 16:=by omega
  go_wp2_with fail;go_ret;exact ⟨rb (by first | rfl | (rw [decide_eq_false h1] <;> simp;done) | (simp;done) | (simp;omega)),HB0.out⟩
theorem qH9 (V:MoV) (M:MMo) (w:World) (h:Rx w (MoR V M)):Calls Tryz.prog 31 #[.agg (V.cells M).toArray] w fun e w'=>e=.returned (.bool (qV M)) /\ Below w.heap.size w w':=by
 obtain ⟨⟨ot,nt,ct⟩,⟨oi,ni,ci⟩,⟨of,nf,cf⟩,⟨og,ng,cg⟩,⟨oe,ne,ce⟩,⟨ol,nl,cl⟩,⟨oc,nc,cc⟩,⟨od,nd,cd⟩⟩:=V;obtain ⟨T,I,F,⟨th,tm,tx⟩,⟨mh,mm,mx⟩,G,E,L,C,D⟩:=M;have e1:qV ⟨T,I,F,⟨th,tm,tx⟩,⟨mh,mm,mx⟩,G,E,L,C,D⟩=(T.all xL && I.all xD && F.all jQ && zS ⟨th,tm,tx⟩ 16 1000 && zS ⟨mh,mm,mx⟩ 16 65536 && G.all yY && E.all xM && L.all zT && C.all zM && D.all zG):=rfl;rw [e1];simp only [MoV.cells];have HT:=hid (h.imp fun _ h=>h.t);have HI:=hid (h.imp fun _ h=>h.i);have HF:Hid (Rd .i64 w of nf cf F):=hid h.now.f;have HG:=hid (h.imp fun _ h=>h.g);have HE:=hid (h.imp fun _ h=>h.e);have HL:=hid (h.imp fun _ h=>h.l);have HC:=hid (h.imp fun _ h=>h.c);have HD:=hid (h.imp fun _ h=>h.d)
 obtain ⟨t0,ht0⟩:∃ t0,T.all xL=t0:=⟨_,rfl⟩
 rw [ht0];have HT0:=hid ht0;clear ht0
 obtain ⟨t1,ht1⟩:∃ t1,I.all xD=t1:=⟨_,rfl⟩
 rw [ht1];have HT1:=hid ht1;clear ht1
 obtain ⟨t2,ht2⟩:∃ t2,F.all jQ=t2:=⟨_,rfl⟩
 rw [ht2];have HT2:=hid ht2;clear ht2
 obtain ⟨t3,ht3⟩:∃ t3,zS ⟨th,tm,tx⟩ 16 1000=t3:=⟨_,rfl⟩
 rw [ht3];have HT3:=hid ht3;clear ht3
 obtain ⟨t4,ht4⟩:∃ t4,zS ⟨mh,mm,mx⟩ 16 65536=t4:=⟨_,rfl⟩
 rw [ht4];have HT4:=hid ht4;clear ht4
 obtain ⟨t5,ht5⟩:∃ t5,G.all yY=t5:=⟨_,rfl⟩
 rw [ht5];have HT5:=hid ht5;clear ht5
 obtain ⟨t6,ht6⟩:∃ t6,E.all xM=t6:=⟨_,rfl⟩
 rw [ht6];have HT6:=hid ht6;clear ht6
 obtain ⟨t7,ht7⟩:∃ t7,L.all zT=t7:=⟨_,rfl⟩
 rw [ht7];have HT7:=hid ht7;clear ht7
 obtain ⟨t8,ht8⟩:∃ t8,C.all zM=t8:=⟨_,rfl⟩
 rw [ht8];have HT8:=hid ht8;clear ht8
 obtain ⟨t9,ht9⟩:∃ t9,D.all zG=t9:=⟨_,rfl⟩
 rw [ht9];have HT9:=hid ht9;clear ht9;have HC0:=hid (Cel.new w [.slice ot nt ct,.slice oi ni ci,.slice of nf cf,.bool th,.int .i64 tm,.int .i64 tx,.bool mh,.int .i64 mm,.int .i64 mx,.slice og ng cg,.slice oe ne ce,.slice ol nl cl,.slice oc nc cc,.slice od nd cd] 33);have HB0:Hid (Below w.heap.size w (w.alloc (.cells #[.slice ot nt ct,.slice oi ni ci,.slice of nf cf,.bool th,.int .i64 tm,.int .i64 tx,.bool mh,.int .i64 mm,.int .i64 mx,.slice og ng cg,.slice oe ne ce,.slice ol nl cl,.slice oc nc cc,.slice od nd cd] 33))):=hid (Bl.alloc (Bl.refl w) _);clear h e1;go_enter Tryz.func31,Tryz.ntmps31;go_wp2_with fail;refine (qQf _ xL ot nt ct T _ (HT.out.below HB0.out) qLj (fun w cs x _ hR=>qLc x cs w hR)).mono ?_;rintro e w1 ⟨rfl,hb⟩;rw [HT0.out];have HB1:=hid (Bl.step HB0.out hb);have HC1:=hid (HC0.out.below (qW5 _) hb);clear hb
 cases t0 with
 | false =>
   go_wp2_with fail;go_ret;exact ⟨rb (by first | rfl | (simp;done) | (simp;done) | (simp;omega)),HB1.out⟩
 | true =>
   have c0:=HC1.out.cell 0 _ rfl;have c1:=HC1.out.cell 1 _ rfl;have c2:=HC1.out.cell 2 _ rfl;have c3:=HC1.out.cell 3 _ rfl;have c4:=HC1.out.cell 4 _ rfl;have c5:=HC1.out.cell 5 _ rfl;have c6:=HC1.out.cell 6 _ rfl;have c7:=HC1.out.cell 7 _ rfl;have c8:=HC1.out.cell 8 _ rfl;have c9:=HC1.out.cell 9 _ rfl;have c10:=HC1.out.cell 10 _ rfl;have c11:=HC1.out.cell 11 _ rfl;have c12:=HC1.out.cell 12 _ rfl;have c13:=HC1.out.cell 13 _ rfl;go_wp2_with fail;refine (qQg _ xD oi ni ci I w1 (HI.out.below HB1.out) qGz (fun w cs x _ hR=>qGw x cs w hR)).mono ?_;rintro e w2 ⟨rfl,hb⟩;rw [HT1.out];have HB2:=hid (Bl.step HB1.out hb);have HC2:=hid (HC1.out.below (qW5 _) hb);clear hb
   cases t1 with
   | false =>
     go_wp2_with fail;go_ret;exact ⟨rb (by first | rfl | (simp;done) | (simp;done) | (simp;omega)),HB2.out⟩
   | true =>
     have c0:=HC2.out.cell 0 _ rfl;have c1:=HC2.out.cell 1 _ rfl;have c2:=HC2.out.cell 2 _ rfl;have c3:=HC2.out.cell 3 _ rfl;have c4:=HC2.out.cell 4 _ rfl;have c5:=HC2.out.cell 5 _ rfl;have c6:=HC2.out.cell 6 _ rfl;have c7:=HC2.out.cell 7 _ rfl;have c8:=HC2.out.cell 8 _ rfl;have c9:=HC2.out.cell 9 _ rfl;have c10:=HC2.out.cell 10 _ rfl;have c11:=HC2.out.cell 11 _ rfl;have c12:=HC2.out.cell 12 _ rfl;have c13:=HC2.out.cell 13 _ rfl;go_wp2_with fail;refine (qBd of nf cf F w2 (HF.out.below HB2.out)).mono ?_;rintro e w3 ⟨rfl,hb⟩;rw [HT2.out];have HB3:=hid (Bl.step HB2.out hb);have HC3:=hid (HC2.out.below (qW5 _) hb);clear hb
     cases t2 with
     | false =>
       go_wp2_with fail;go_ret;exact ⟨rb (by first | rfl | (simp;done) | (simp;done) | (simp;omega)),HB3.out⟩
     | true =>
       have c0:=HC3.out.cell 0 _ rfl;have c1:=HC3.out.cell 1 _ rfl;have c2:=HC3.out.cell 2 _ rfl;have c3:=HC3.out.cell 3 _ rfl;have c4:=HC3.out.cell 4 _ rfl;have c5:=HC3.out.cell 5 _ rfl;have c6:=HC3.out.cell 6 _ rfl;have c7:=HC3.out.cell 7 _ rfl;have c8:=HC3.out.cell 8 _ rfl;have c9:=HC3.out.cell 9 _ rfl;have c10:=HC3.out.cell 10 _ rfl;have c11:=HC3.out.cell 11 _ rfl;have c12:=HC3.out.cell 12 _ rfl;have c13:=HC3.out.cell 13 _ rfl;go_wp2_with fail;refine (qB8 th tm tx 16 1000 w3).mono ?_;rintro e w4 ⟨rfl,hb⟩;rw [HT3.out];have HB4:=hid (Bl.step HB3.out hb);have HC4:=hid (HC3.out.below (qW5 _) hb);clear hb
       cases t3 with
       | false =>
         go_wp2_with fail;go_ret;exact ⟨rb (by first | rfl | (simp;done) | (simp;done) | (simp;omega)),HB4.out⟩
       | true =>
         have c0:=HC4.out.cell 0 _ rfl;have c1:=HC4.out.cell 1 _ rfl;have c2:=HC4.out.cell 2 _ rfl;have c3:=HC4.out.cell 3 _ rfl;have c4:=HC4.out.cell 4 _ rfl;have c5:=HC4.out.cell 5 _ rfl;have c6:=HC4.out.cell 6 _ rfl;have c7:=HC4.out.cell 7 _ rfl;have c8:=HC4.out.cell 8 _ rfl;have c9:=HC4.out.cell 9 _ rfl;have c10:=HC4.out.cell 10 _ rfl;have c11:=HC4.out.cell 11 _ rfl;have c12:=HC4.out.cell 12 _ rfl;have c13:=HC4.out.cell 13 _ rfl;go_wp2_with fail;refine (qB8 mh mm mx 16 65536 w4).mono ?_;rintro e w5 ⟨rfl,hb⟩;rw [HT4.out];have HB5:=hid (Bl.step HB4.out hb);have HC5:=hid (HC4.out.below (qW5 _) hb);clear hb
         cases t4 with
         | false =>
           go_wp2_with fail;go_ret;exact ⟨rb (by first | rfl | (simp;done) | (simp;done) | (simp;omega)),HB5.out⟩
         | true =>
           have c0:=HC5.out.cell 0 _ rfl;have c1:=HC5.out.cell 1 _ rfl;have c2:=HC5.out.cell 2 _ rfl;have c3:=HC5.out.cell 3 _ rfl;have c4:=HC5.out.cell 4 _ rfl;have c5:=HC5.out.cell 5 _ rfl;have c6:=HC5.out.cell 6 _ rfl;have c7:=HC5.out.cell 7 _ rfl;have c8:=HC5.out.cell 8 _ rfl;have c9:=HC5.out.cell 9 _ rfl;have c10:=HC5.out.cell 10 _ rfl;have c11:=HC5.out.cell 11 _ rfl;have c12:=HC5.out.cell 12 _ rfl;have c13:=HC5.out.cell 13 _ rfl;go_wp2_with fail;refine (qQh _ yY og ng cg G w5 (HG.out.below HB5.out) qG0 (fun w cs x _ hR=>qGy x cs w hR)).mono ?_;rintro e w6 ⟨rfl,hb⟩;rw [HT5.out];have HB6:=hid (Bl.step HB5.out hb);have HC6:=hid (HC5.out.below (qW5 _) hb);clear hb
           cases t5 with
           | false =>
             go_wp2_with fail;go_ret;exact ⟨rb (by first | rfl | (simp;done) | (simp;done) | (simp;omega)),HB6.out⟩
           | true =>
             have c0:=HC6.out.cell 0 _ rfl;have c1:=HC6.out.cell 1 _ rfl;have c2:=HC6.out.cell 2 _ rfl;have c3:=HC6.out.cell 3 _ rfl;have c4:=HC6.out.cell 4 _ rfl;have c5:=HC6.out.cell 5 _ rfl;have c6:=HC6.out.cell 6 _ rfl;have c7:=HC6.out.cell 7 _ rfl;have c8:=HC6.out.cell 8 _ rfl;have c9:=HC6.out.cell 9 _ rfl;have c10:=HC6.out.cell 10 _ rfl;have c11:=HC6.out.cell 11 _ rfl;have c12:=HC6.out.cell 12 _ rfl;have c13:=HC6.out.cell 13 _ rfl;go_wp2_with fail;refine (qQi _ xM oe ne ce E w6 (HE.out.below HB6.out) qG1 (fun w cs x _ hR=>qGx x cs w hR)).mono ?_;rintro e w7 ⟨rfl,hb⟩;rw [HT6.out];have HB7:=hid (Bl.step HB6.out hb);have HC7:=hid (HC6.out.below (qW5 _) hb);clear hb
             cases t6 with
             | false =>
               go_wp2_with fail;go_ret;exact ⟨rb (by first | rfl | (simp;done) | (simp;done) | (simp;omega)),HB7.out⟩
             | true =>
               have c0:=HC7.out.cell 0 _ rfl;have c1:=HC7.out.cell 1 _ rfl;have c2:=HC7.out.cell 2 _ rfl;have c3:=HC7.out.cell 3 _ rfl;have c4:=HC7.out.cell 4 _ rfl;have c5:=HC7.out.cell 5 _ rfl;have c6:=HC7.out.cell 6 _ rfl;have c7:=HC7.out.cell 7 _ rfl;have c8:=HC7.out.cell 8 _ rfl;have c9:=HC7.out.cell 9 _ rfl;have c10:=HC7.out.cell 10 _ rfl;have c11:=HC7.out.cell 11 _ rfl;have c12:=HC7.out.cell 12 _ rfl;have c13:=HC7.out.cell 13 _ rfl;go_wp2_with fail;refine (qQj _ zT ol nl cl L w7 (HL.out.below HB7.out) qLk (fun w cs x _ hR=>qLd x cs w hR)).mono ?_;rintro e w8 ⟨rfl,hb⟩;rw [HT7.out];have HB8:=hid (Bl.step HB7.out hb);have HC8:=hid (HC7.out.below (qW5 _) hb);clear hb
               cases t7 with
               | false =>
                 go_wp2_with fail;go_ret;exact ⟨rb (by first | rfl | (simp;done) | (simp;done) | (simp;omega)),HB8.out⟩
               | true =>
                 have c0:=HC8.out.cell 0 _ rfl;have c1:=HC8.out.cell 1 _ rfl;have c2:=HC8.out.cell 2 _ rfl;have c3:=HC8.out.cell 3 _ rfl;have c4:=HC8.out.cell 4 _ rfl;have c5:=HC8.out.cell 5 _ rfl;have c6:=HC8.out.cell 6 _ rfl;have c7:=HC8.out.cell 7 _ rfl;have c8:=HC8.out.cell 8 _ rfl;have c9:=HC8.out.cell 9 _ rfl;have c10:=HC8.out.cell 10 _ rfl;have c11:=HC8.out.cell 11 _ rfl;have c12:=HC8.out.cell 12 _ rfl;have c13:=HC8.out.cell 13 _ rfl;go_wp2_with fail;refine (qQk _ zM oc nc cc C w8 (HC.out.below HB8.out) qLl (fun w cs x _ hR=>qLg x cs w hR)).mono ?_;rintro e w9 ⟨rfl,hb⟩;rw [HT8.out];have HB9:=hid (Bl.step HB8.out hb);have HC9:=hid (HC8.out.below (qW5 _) hb);clear hb
                 cases t8 with
                 | false =>
                   go_wp2_with fail;go_ret;exact ⟨rb (by first | rfl | (simp;done) | (simp;done) | (simp;omega)),HB9.out⟩
                 | true =>
                   have c0:=HC9.out.cell 0 _ rfl;have c1:=HC9.out.cell 1 _ rfl;have c2:=HC9.out.cell 2 _ rfl;have c3:=HC9.out.cell 3 _ rfl;have c4:=HC9.out.cell 4 _ rfl;have c5:=HC9.out.cell 5 _ rfl;have c6:=HC9.out.cell 6 _ rfl;have c7:=HC9.out.cell 7 _ rfl;have c8:=HC9.out.cell 8 _ rfl;have c9:=HC9.out.cell 9 _ rfl;have c10:=HC9.out.cell 10 _ rfl;have c11:=HC9.out.cell 11 _ rfl;have c12:=HC9.out.cell 12 _ rfl;have c13:=HC9.out.cell 13 _ rfl;go_wp2_with fail;refine (qQl _ zG od nd cd D w9 (HD.out.below HB9.out) qLm (fun w cs x _ hR=>qLe x cs w hR)).mono ?_;rintro e w10 ⟨rfl,hb⟩;rw [HT9.out];have HB10:=hid (Bl.step HB9.out hb);have HC10:=hid (HC9.out.below (qW5 _) hb);clear hb;go_wp2_with fail;go_ret;exact ⟨rb (by first | rfl | (simp;done) | (simp;done) | (simp;omega)),HB10.out⟩
end Go.Proofs.YtbkofpljchkkaaaGreat
