/- Words: KD. -/
import Derived.BigRegion
import Derived.Deep.AppendLies
import Derived.Test.YtbkofpljchkkaaaGreatKC
import Derived.Test.YtbkofpljchkkaaaGreatKB
set_option maxHeartbeats 1000000
namespace Go.Proofs.YtbkofpljchkkaaaGreat
open Go.RowKit
theorem qCi {xs:List Int} {m k k':Nat} (h:Stop xs m k) (h':Stop xs m k'):k=k':=Stop.one h h'
theorem qE7 {bits:Int} {xs:List Int} {k:Nat} (h:Stop xs ((bits + 6) / 7).toNat k) (g:qDv xs bits k):decU bits xs=(val (xs.take (k + 1)),k + 1,0):=by
 have he:∃ k,Stop xs ((bits + 6) / 7).toNat k:=⟨k,h⟩
 have hk:he.choose=k:=qCi he.choose_spec h;unfold decU;rw [dif_pos he,hk,if_pos g]
theorem qE8 {bits:Int} {xs:List Int} {k:Nat} (h:Stop xs ((bits + 6) / 7).toNat k) (g:¬ qDv xs bits k):decU bits xs=(0,0,1):=by
 have he:∃ k,Stop xs ((bits + 6) / 7).toNat k:=⟨k,h⟩
 have hk:he.choose=k:=qCi he.choose_spec h;unfold decU;rw [dif_pos he,hk,if_neg g]
theorem qE9 {xs:List Int} {m:Nat} (h:∀ i,i < m -> i < xs.length -> 128 <= xs.getD i 0):¬ ∃ k,Stop xs m k:=by
 rintro ⟨k,hk⟩;have:=h k hk.most hk.lt;have:=hk.last;omega
theorem qC7 {bits:Int} {xs:List Int} (h:((bits + 6) / 7).toNat <= xs.length /\ ∀ i,i < ((bits + 6) / 7).toNat -> 128 <= xs.getD i 0):decU bits xs=(0,0,1):=by
 unfold decU;rw [dif_neg (qE9 fun i hi _=>h.2 i hi),if_pos h.1]
theorem qC8 {bits:Int} {xs:List Int} (h:xs.length < ((bits + 6) / 7).toNat /\ ∀ i,i < xs.length -> 128 <= xs.getD i 0):decU bits xs=(0,0,2):=by
 unfold decU;rw [dif_neg (qE9 fun i _ hi=>h.2 i hi),if_neg (by omega)]
theorem qFa {bits:Int} {xs:List Int} {k:Nat} (h:Stop xs ((bits + 6) / 7).toNat k) (g:qB1 xs bits k):decS bits xs=(qAs (xs.take (k + 1)),k + 1,0):=by
 have he:∃ k,Stop xs ((bits + 6) / 7).toNat k:=⟨k,h⟩
 have hk:he.choose=k:=qCi he.choose_spec h;unfold decS;rw [dif_pos he,hk,if_pos g]
theorem qFb {bits:Int} {xs:List Int} {k:Nat} (h:Stop xs ((bits + 6) / 7).toNat k) (g:¬ qB1 xs bits k):decS bits xs=(0,0,1):=by
 have he:∃ k,Stop xs ((bits + 6) / 7).toNat k:=⟨k,h⟩
 have hk:he.choose=k:=qCi he.choose_spec h;unfold decS;rw [dif_pos he,hk,if_neg g]
theorem qC9 {bits:Int} {xs:List Int} (h:((bits + 6) / 7).toNat <= xs.length /\ ∀ i,i < ((bits + 6) / 7).toNat -> 128 <= xs.getD i 0):decS bits xs=(0,0,1):=by
 unfold decS;rw [dif_neg (qE9 fun i hi _=>h.2 i hi),if_pos h.1]
theorem qDa {bits:Int} {xs:List Int} (h:xs.length < ((bits + 6) / 7).toNat /\ ∀ i,i < xs.length -> 128 <= xs.getD i 0):decS bits xs=(0,0,2):=by
 unfold decS;rw [dif_neg (qE9 fun i _ hi=>h.2 i hi),if_neg (by omega)]
theorem qGm {xs:List Int} {bits:Int} {k:Nat} (h1:1 <= bits) (h2:bits <= 64) (h:qB1 xs bits k):-9223372036854775808 <= qAs (xs.take (k + 1)) /\ qAs (xs.take (k + 1)) <= 9223372036854775807:=by
 have h3:=h.2;have:(2:Int) ^ (bits - 1).toNat <= 2 ^ 63:=yR (by omega);have e:(2:Int) ^ 63=9223372036854775808:=by decide
 omega
theorem qGn {bits:Int} {xs:List Int}:0 <= (decU bits xs).1 /\ (decU bits xs).1 < 2 ^ bits.toNat /\ (decU bits xs).2.1 <= xs.length /\ ((decU bits xs).2.2=0 ∨ ((decU bits xs).2.2=1 ∨ (decU bits xs).2.2=2) /\ (decU bits xs).1=0 /\ (decU bits xs).2.1=0):=by
 have hp:(0:Int) < 2 ^ bits.toNat:=Int.pow_pos (by decide);rcases qIq xs ((bits + 6) / 7).toNat with ⟨k,hs⟩ | h | h
 ·by_cases g:qDv xs bits k
  ·rw [qE7 hs g]
   exact ⟨xW _,g.2,hs.lt,.inl rfl⟩
  ·rw [qE8 hs g]
   exact ⟨Int.le_refl _,hp,qXf _,.inr ⟨.inl rfl,rfl,rfl⟩⟩
 ·rw [qC7 h]
  exact ⟨Int.le_refl _,hp,qXf _,.inr ⟨.inl rfl,rfl,rfl⟩⟩
 ·rw [qC8 h]
  exact ⟨Int.le_refl _,hp,qXf _,.inr ⟨.inr rfl,rfl,rfl⟩⟩
theorem qNb {bits:Int} {xs:List Int} (h1:1 <= bits) (h2:bits <= 64):-9223372036854775808 <= (decS bits xs).1 /\ (decS bits xs).1 <= 9223372036854775807 /\ (decS bits xs).2.1 <= xs.length /\ ((decS bits xs).2.2=0 ∨ ((decS bits xs).2.2=1 ∨ (decS bits xs).2.2=2) /\ (decS bits xs).1=0 /\ (decS bits xs).2.1=0):=by
 rcases qIq xs ((bits + 6) / 7).toNat with ⟨k,hs⟩ | h | h
 ·by_cases g:qB1 xs bits k
  ·rw [qFa hs g]
   have:=qGm h1 h2 g;exact ⟨this.1,this.2,hs.lt,.inl rfl⟩
  ·rw [qFb hs g]
   exact ⟨by simp,by simp,qXf _,.inr ⟨.inl rfl,rfl,rfl⟩⟩
 ·rw [qC9 h]
  exact ⟨by simp,by simp,qXf _,.inr ⟨.inl rfl,rfl,rfl⟩⟩
 ·rw [qDa h]
  exact ⟨by simp,by simp,qXf _,.inr ⟨.inr rfl,rfl,rfl⟩⟩
section
variable (ao:Option Addr) (n cap:Nat) (xs:List Int) (bits:Int) (w:World) (hr:Rd .u8 w ao n cap xs) (h1:1 <= bits) (h2:bits <= 64)
include hr h1 h2
theorem qWh (v:Int) (k:Nat) (er:Int) (h:decU bits xs=(v,k,er)) :
    Calls Tryz.prog 163 #[.slice ao n cap,.int .i64 bits] w fun e w'=>e=.returned (.tuple #[.int .u64 v,.int .i64 k,.int .i64 er]) /\ w=w':=by
 have hm:(((bits + 6) / 7).toNat:Int)=(bits + 6) / 7:=by omega
 rcases qIq xs ((bits + 6) / 7).toNat with ⟨j,hs⟩ | g | g
 ·by_cases gd:qDv xs bits j
  ·rw [qE7 hs gd] at h;cases h
   exact qW2 ao n cap xs bits w hr h1 h2 _ j hm hs gd
  ·rw [qE8 hs gd] at h;cases h
   exact qWd ao n cap xs bits w hr h1 h2 _ j hm hs gd
 ·rw [qC7 g] at h;cases h
  exact qVf ao n cap xs bits w hr h1 h2 _ hm g
 ·rw [qC8 g] at h;cases h
  exact qVg ao n cap xs bits w hr h1 h2 _ hm g
theorem qWy (v:Int) (k:Nat) (er:Int) (h:decS bits xs=(v,k,er)) :
    Calls Tryz.prog 227 #[.slice ao n cap,.int .i64 bits] w fun e w'=>e=.returned (.tuple #[.int .i64 v,.int .i64 k,.int .i64 er]) /\ w=w':=by
 have hm:(((bits + 6) / 7).toNat:Int)=(bits + 6) / 7:=by omega
 rcases qIq xs ((bits + 6) / 7).toNat with ⟨j,hs⟩ | g | g
 ·by_cases gd:qB1 xs bits j
  ·rw [qFa hs gd] at h;cases h
   exact qW3 ao n cap xs bits w hr h1 h2 _ j hm hs gd
  ·rw [qFb hs gd] at h;cases h
   exact qWe ao n cap xs bits w hr h1 h2 _ j hm hs gd
 ·rw [qC9 g] at h;cases h
  exact qVh ao n cap xs bits w hr h1 h2 _ hm g
 ·rw [qDa g] at h;cases h
  exact qVi ao n cap xs bits w hr h1 h2 _ hm g
end
structure Mv (p:Nat) (w w':World):Prop where
 os:w'.os=w.os
 tape:w'.tape=w.tape
 output:w'.output=w.output
 size:w.heap.size <= w'.heap.size
 block:∀ b,b < w.heap.size -> b ≠ p -> w'.heap[b]?=w.heap[b]?
theorem Mv.refl (p:Nat) (w:World):Mv p w w:=⟨rfl,rfl,rfl,qW8 _,fun _ _ _=>rfl⟩
theorem Mv.trans {p:Nat} {w w' w'':World} (h:Mv p w w') (g:Mv p w' w''):Mv p w w'' :=
 ⟨g.os.trans h.os,g.tape.trans h.tape,g.output.trans h.output,qXk h.size g.size,fun b hb hp=>(g.block b (qXr hb h.size) hp).trans (h.block b hb hp)⟩
theorem Mv.of {p:Nat} {w w':World} (h:Below w.heap.size w w'):Mv p w w':=⟨h.os,h.tape,h.output,h.size,fun b hb _=>h.block b hb⟩
theorem Mv.set (p o:Nat) (w:World) (u:Value):Mv p w (w.setCell ⟨p,o,none⟩ u):=⟨rfl,rfl,rfl,by simp,fun b _ hp=>Below.heap_setCell w ⟨p,o,none⟩ u b (fun e=>hp e)⟩
theorem Mv.below {p B:Nat} {w w':World} (h:Mv p w w') (hp:B <= p) (hB:B <= w.heap.size):Below B w w' :=
 ⟨h.os,h.tape,h.output,h.size,fun b hb=>h.block b (qXr hb hB) (by omega)⟩
theorem Mv.cell {p q:Nat} {w w':World} (h:Mv p w w') {o:Nat} {v:Value} (hq:q ≠ p) (hc:w.cell? ⟨q,o,none⟩=some v):w'.cell? ⟨q,o,none⟩=some v :=
 (World.cell?_of_block (h.block q (qXc w _ hc) hq)).trans hc
theorem Mv.frozen {p q:Nat} {w w':World} (h:Mv p w w') {o:Nat} (hq:q ≠ p) (hl:q < w.heap.size):w'.frozen? ⟨q,o,none⟩=w.frozen? ⟨q,o,none⟩ :=
 World.frozen?_of_block (h.block q hl hq)
structure Rdr (wB w:World) (p:Nat) (ao:Option Addr) (n cap:Nat) (xs:List Int) (s:RS):Prop where
 base:Below wB.heap.size wB w
 hp:wB.heap.size <= p
 rd:Rd .u8 wB ao n cap xs
 c0:w.cell? ⟨p,0,none⟩=some (.slice ao n cap)
 c1:w.cell? ⟨p,1,none⟩=some (.int .i64 s.at')
 c2:w.cell? ⟨p,2,none⟩=some (.int .i64 s.err)
 f1:w.frozen? ⟨p,1,none⟩=false
 f2:w.frozen? ⟨p,2,none⟩=false
 le:s.at' <= n
section
variable {wB w w':World} {p:Nat} {ao:Option Addr} {n cap:Nat} {xs:List Int} {s:RS}
theorem Rdr.lt (h:Rdr wB w p ao n cap xs s):p < w.heap.size:=qXc w _ h.c0
theorem Rdr.below (h:Rdr wB w p ao n cap xs s) (hb:Below w.heap.size w w'):Rdr wB w' p ao n cap xs s :=
 ⟨h.base.trans (hb.mono h.base.size),h.hp,h.rd,(hb.cell (p:=⟨p,0,none⟩) h.lt).trans h.c0,(hb.cell (p:=⟨p,1,none⟩) h.lt).trans h.c1,(hb.cell (p:=⟨p,2,none⟩) h.lt).trans h.c2,
  (hb.frozen (p:=⟨p,1,none⟩) h.lt).trans h.f1,(hb.frozen (p:=⟨p,2,none⟩) h.lt).trans h.f2,h.le⟩
theorem Rdr.drewN (h:Rdr wB w p ao n cap xs s) (k:Nat):Rdr wB (w.drewN k) p ao n cap xs s:=h.below (qW _ _ _)
theorem Mv.drewN (p:Nat) (w:World) (k:Nat):Mv p w (w.drewN k):=Mv.of (qW _ _ _)
theorem Rdr.now (h:Rdr wB w p ao n cap xs s):Rd .u8 w ao n cap xs:=h.rd.below h.base
theorem Rdr.setAt (h:Rdr wB w p ao n cap xs s) (k:Nat) (hk:k <= n):Rdr wB (w.setCell ⟨p,1,none⟩ (.int .i64 k)) p ao n cap xs ⟨k,s.err⟩:=by
 have c0:=h.c0;have c1:=h.c1;have c2:=h.c2;have f1:=h.f1;have f2:=h.f2;have hl:=h.lt;refine ⟨h.base.trans ((Mv.set p 1 w _).below h.hp h.base.size),h.hp,h.rd,?_,?_,?_,?_,?_,hk⟩ <;> go_simp
theorem Rdr.setErr (h:Rdr wB w p ao n cap xs s) (e:Int):Rdr wB (w.setCell ⟨p,2,none⟩ (.int .i64 e)) p ao n cap xs ⟨s.at',e⟩:=by
 have c0:=h.c0;have c1:=h.c1;have c2:=h.c2;have f1:=h.f1;have f2:=h.f2;have hl:=h.lt;refine ⟨h.base.trans ((Mv.set p 2 w _).below h.hp h.base.size),h.hp,h.rd,?_,?_,?_,?_,?_,h.le⟩ <;> go_simp
theorem Rdr.both (h:Rdr wB w p ao n cap xs s) (i k:Nat) (hk:i + k <= n) (e:Int) :
    Rdr wB ((w.setCell ⟨p,1,none⟩ (.int .i64 ((i:Int) + (k:Int)))).setCell ⟨p,2,none⟩ (.int .i64 e)) p ao n cap xs ⟨i + k,e⟩:=by
 have:=(h.setAt (i + k) hk).setErr e
 simpa using this
theorem Mv.both (p:Nat) (w:World) (u v:Value):Mv p w ((w.setCell ⟨p,1,none⟩ u).setCell ⟨p,2,none⟩ v):=(Mv.set p 1 w u).trans (Mv.set p 2 _ v)
end
theorem qU9 (xs:List Int) (s:RS):0 <= (rU xs s).1 /\ (rU xs s).1 < 4294967296:=by
 unfold rU;have:=qGn (bits:=32) (xs:=xs.drop s.at');split
 ·exact ⟨this.1,this.2.1⟩
 ·simp
theorem Own.mv {E:TypeId} {k:IntKind} {base p:Nat} {w w':World} {v:Value} {xs:List Int} (h:Own E k base w v xs) (hm:Mv p w w') (hp:p < base):Own E k base w' v xs:=by
 refine ⟨h.row.kept (row:=some p) ⟨hm.os,hm.tape,hm.output,hm.size,fun b hb hne=>hm.block b hb (fun e=>hne (by rw [e]))⟩ ?_,h.wf⟩
 cases hv:v.ownBlock with
 | none=>exact .inl rfl
 | some b=>exact .inr (fun e=>by have:=(h.lt b hv).1;cases e;omega)
theorem Mv.then {p B:Nat} {w w1 w2:World} (h:Mv p w w1) (hb:Below B w1 w2) (hB:w.heap.size <= B):Mv p w w2 :=
 ⟨hb.os.trans h.os,hb.tape.trans h.tape,hb.output.trans h.output,qXk h.size hb.size,fun b hlt hne=>(hb.block b (by omega)).trans (h.block b hlt hne)⟩
theorem Rdr.keep {wB w w':World} {p B:Nat} {ao:Option Addr} {n cap:Nat} {xs:List Int} {s:RS} (h:Rdr wB w p ao n cap xs s) (hb:Below B w w') (hp:p < B):Rdr wB w' p ao n cap xs s :=
 ⟨h.base.trans (hb.mono (Nat.le_of_lt (Nat.lt_of_le_of_lt h.hp hp))),h.hp,h.rd,(hb.cell (p:=⟨p,0,none⟩) hp).trans h.c0,(hb.cell (p:=⟨p,1,none⟩) hp).trans h.c1,(hb.cell (p:=⟨p,2,none⟩) hp).trans h.c2,
  (hb.frozen (p:=⟨p,1,none⟩) hp).trans h.f1,(hb.frozen (p:=⟨p,2,none⟩) hp).trans h.f2,h.le⟩
def qWi:Value -> Nat
 | .slice _ n _=>n
 | _=>0
theorem qCj {xs:List Int} {m:Nat} {s:RS} (h:s.err ≠ 0):rLs xs m s=([],s):=by
 cases m with
 | zero=>rfl
 | succ m=>unfold rLs;rw [if_neg h]
theorem qNc {xs:List Int} {m:Nat} {s s3:RS} {x:Int} (h:s.err=0) (hx:rA 3 xs s=(x,s3)):rLs xs (m + 1) s=(x :: (rLs xs m s3).1,(rLs xs m s3).2):=by
 rw [rLs,if_pos h,hx]
open Go.RowKit
theorem qGo:Tryz.prog.underlying 37=some (.slice (Tryz.prog.elem 37)):=by kernel_rfl
theorem qGp (w:World):(sizeOf (Tryz.prog.elem 37)).run Tryz.prog w=.ok 1 w:=by kernel_rfl
section
variable (wB w:World) (p:Nat) (ao:Option Addr) (n cap:Nat) (xs:List Int) (s:RS) (h:Rdr wB w p ao n cap xs s)
include h
def qNd (wB:World) (p:Nat) (ao:Option Addr) (n cap:Nat) (xs:List Int) (w:World) (s':RS) (w':World):Prop:=Rdr wB w' p ao n cap xs s' /\ Mv p w w'
theorem yU (v:Int) (s':RS) (ho:vO xs s=(v,s')) :
    Calls Tryz.prog 214 #[.pointer (some ⟨p,0,none⟩)] w fun e w'=>e=.returned (.int .u8 v) /\ qNd wB p ao n cap xs w s' w':=by
 have hn63:n <= 9223372036854775807:=by have h1:=h.rd.le;have h2:=h.rd.max;unfold maxLen at h2;omega
 obtain ⟨i,er⟩:=s
 have hx:=h.rd.len
 have hi:i <= n:=h.le
 obtain ⟨c0,c1,c2,f1,f2⟩:w.cell? ⟨p,0,none⟩=some (.slice ao n cap) /\ w.cell? ⟨p,1,none⟩=some (.int .i64 i) /\ w.cell? ⟨p,2,none⟩=some (.int .i64 er) /\ w.frozen? ⟨p,1,none⟩=false /\ w.frozen? ⟨p,2,none⟩=false:=⟨h.c0,h.c1,h.c2,h.f1,h.f2⟩
 have H:=hid h
 have Hx:=hid hx
 clear h hx
 unfold vO at ho
 simp only at ho
 by_cases h0:er=0
 ·subst h0
  rw [if_pos rfl] at ho;by_cases hn:i=n
  ·rw [if_pos (by rw [Hx.out,hn])] at ho
   cases ho
   subst hn;go_enter Tryz.func214,Tryz.ntmps214;go_wp2;go_quiet (fail);go_wp2;go_ret;exact ⟨rfl,(H.out.drewN nq).setErr 2,(Mv.drewN p w nq).trans (Mv.set p 2 _ _)⟩
  ·rw [if_neg (by rw [Hx.out];exact hn)] at ho
   cases ho
   have hne:((i:Int) == (n:Int))=false:=by simp;omega
   have hlt:i < n:=by omega
   obtain ⟨b,off,rfl,hc⟩:=H.out.now.at (by omega)
   have hck:=hc i hlt;have Hck:=hid hck;clear hc hck;go_enter Tryz.func214,Tryz.ntmps214;go_wp2;go_quiet (fail);go_wp2
   have R1:Rdr wB ((w.drewN nq).setCell ⟨p,1,none⟩ (.int .i64 ((i:Int) + 1))) p (some ⟨b,off,none⟩) n cap xs ⟨i + 1,0⟩:=by
    have:=(H.out.drewN nq).setAt (i + 1) (by omega);simpa using this
   have M1:Mv p w ((w.drewN nq).setCell ⟨p,1,none⟩ (.int .i64 ((i:Int) + 1))):=(Mv.drewN p w nq).trans (Mv.set p 1 _ _);generalize (w.drewN nq).setCell ⟨p,1,none⟩ (.int .i64 ((i:Int) + 1))=w1 at R1 M1 ⊢;clear c0 c1 c2 f1 f2;have c0:=R1.c0;have c1:w1.cell? ⟨p,1,none⟩=some (.int .i64 ((i:Int) + 1)):=by have:=R1.c1;simpa using this
   have hck:w1.cell? ⟨b,off + i,none⟩=some (.int .u8 (xs.getD i 0)):=by have:=R1.now.cell _ rfl i hlt;rw [Addr.add_lit] at this;exact this
   have hsub:IntKind.i64.wrap ((i:Int) + 1 - 1)=i:=by rw [IntWalk.i64_in _ (by omega)];omega
   have HR:=hid R1;have HM:=hid M1;clear R1 M1;go_quiet (fail);go_wp2;go_ret;exact ⟨rfl,HR.out.drewN nq,HM.out.trans (Mv.drewN p _ _)⟩
 ·rw [if_neg h0] at ho
  cases ho
  have h0':(er != 0)=true:=by simp [h0]
  go_enter Tryz.func214,Tryz.ntmps214;go_wp2;go_ret;exact ⟨rfl,H.out,Mv.refl _ _⟩
theorem qBp (t:Bool) (s':RS) (ho:qD4 t s=s') :
    Calls Tryz.prog 215 #[.pointer (some ⟨p,0,none⟩),.bool t] w fun e w'=>e=.returned (.tuple #[]) /\ qNd wB p ao n cap xs w s' w':=by
 obtain ⟨i,er⟩:=s
 obtain ⟨c2,f2⟩:w.cell? ⟨p,2,none⟩=some (.int .i64 er) /\ w.frozen? ⟨p,2,none⟩=false:=⟨h.c2,h.f2⟩
 have H:=hid h
 clear h
 unfold qD4 at ho
 simp only at ho
 cases t
 ·by_cases h0:er=0
  ·subst h0
   rw [if_pos ⟨rfl,rfl⟩] at ho
   cases ho
   go_enter Tryz.func215,Tryz.ntmps215;go_wp2;go_end0;exact ⟨rfl,H.out.setErr 1,Mv.set p 2 _ _⟩
  ·rw [if_neg (fun hh=>h0 hh.2)] at ho
   cases ho
   have h0':(er == 0)=false:=by simp [h0]
   go_enter Tryz.func215,Tryz.ntmps215;go_wp2;go_end0;exact ⟨rfl,H.out,Mv.refl _ _⟩
 ·rw [if_neg (fun hh=>by cases hh.1)] at ho
  cases ho
  go_enter Tryz.func215,Tryz.ntmps215;go_wp2;go_end0;exact ⟨rfl,H.out,Mv.refl _ _⟩
theorem qNe (v:Int) (s':RS) (ho:qS3 xs s=(v,s')) :
    Calls Tryz.prog 216 #[.pointer (some ⟨p,0,none⟩)] w fun e w'=>e=.returned (.int .i64 v) /\ qNd wB p ao n cap xs w s' w':=by
 obtain ⟨x,s1,h1⟩:∃ x s1,vO xs s=(x,s1):=⟨_,_,rfl⟩
 unfold qS3 at ho
 rw [h1] at ho
 simp only at ho
 have H:=hid h
 have H1:=hid h1
 have HO:=hid ho
 clear h h1 ho
 go_enter Tryz.func216,Tryz.ntmps216
 go_wp2_with fail
 refine (yU wB w p ao n cap xs s H.out x s1 H1.out).mono ?_
 rintro e w1 ⟨rfl,R1,M1⟩
 have HR:=hid R1
 have HM:=hid M1
 clear R1 M1
 by_cases e64:x=64
 ·subst e64
  have hs:=HO.out
  cases hs
  go_wp2_with fail;go_ret;exact ⟨rfl,HR.out,HM.out⟩
 by_cases e127:x=127
 ·subst e127
  have hs:=HO.out
  cases hs
  go_wp2_with fail;go_ret;exact ⟨rfl,HR.out,HM.out⟩
 by_cases e126:x=126
 ·subst e126
  have hs:=HO.out
  cases hs
  go_wp2_with fail;go_ret;exact ⟨rfl,HR.out,HM.out⟩
 have h64:(x == 64)=false:=by simp [e64]
 have h127:(x == 127)=false:=by simp [e127]
 have h126:(x == 126)=false:=by simp [e126]
 have hv:v=0:=by have:=(congrArg Prod.fst HO.out).symm;simp only at this;rw [this];unfold qU7;rw [if_neg e127,if_neg e126]
 have hs:qD4 false s1=s':=by have:=congrArg Prod.snd HO.out;simp only at this;rw [<- this,h64,h127,h126];rfl
 have HS:=hid hs
 clear hs e64 e127 e126
 subst hv
 go_wp2_with fail
 refine (qBp wB w1 p ao n cap xs s1 HR.out false s' HS.out).mono ?_
 rintro e w2 ⟨rfl,R2,M2⟩
 have HR2:=hid R2
 have HM2:=hid M2
 clear R2 M2
 go_wp2_with fail
 go_ret
 exact ⟨rfl,HR2.out,HM.out.trans HM2.out⟩
theorem uB (v:Int) (s':RS) (ho:rU xs s=(v,s')) :
    Calls Tryz.prog 219 #[.pointer (some ⟨p,0,none⟩)] w fun e w'=>e=.returned (.int .i64 v) /\ qNd wB p ao n cap xs w s' w':=by
 have hn63:n <= 9223372036854775807:=by have h1:=h.rd.le;have h2:=h.rd.max;unfold maxLen at h2;omega
 obtain ⟨i,er⟩:=s
 have hi:i <= n:=h.le
 obtain ⟨c0,c1,c2⟩:w.cell? ⟨p,0,none⟩=some (.slice ao n cap) /\ w.cell? ⟨p,1,none⟩=some (.int .i64 i) /\ w.cell? ⟨p,2,none⟩=some (.int .i64 er):=⟨h.c0,h.c1,h.c2⟩
 have H:=hid h
 have hx:=h.rd.len
 clear h
 unfold rU at ho
 simp only at ho
 by_cases h0:er=0
 ·subst h0
  rw [if_pos rfl] at ho
  obtain ⟨v0,k,e0,hd⟩:∃ v0 k e0,decU 32 (xs.drop i)=(v0,k,e0):=⟨_,_,_,rfl⟩
  have hsp:=qGn (bits:=32) (xs:=xs.drop i);rw [hd] at ho hsp;simp only at ho hsp
  cases ho
  have hk:k <= n - i:=by have:=hsp.2.2.1;simp at this;omega
  have hv0:0 <= v:=hsp.1;have hv1:v < 4294967296:=hsp.2.1;have hrd:=H.out.now.cut i n hi (qW8 _);rw [qW9 (by omega)] at hrd;have hcut:=vR 37 qGo qGp ao n cap (i:Int) i rfl hi;have hwr:IntKind.i64.wrap v=v:=IntWalk.i64_in v (by omega);have HD:=hid hd;have HRD:=hid hrd;have HX:=hid hx;have Hwr:=hid hwr;clear hd hrd hx hsp hwr;go_enter Tryz.func219,Tryz.ntmps219;go_wp2;go_quiet ((go_at_call 163;exact Calls.quiet_eq (qWh _ _ _ (xs.drop i) 32 _ (HRD.out.below (qW _ _ _)) (by omega) (by omega) v k e0 HD.out)));have R1:=H.out.drewN nq;have M1:=Mv.drewN p w nq;generalize w.drewN nq=w1 at R1 M1 ⊢;clear c0 c1 c2 hcut;have c1:w1.cell? ⟨p,1,none⟩=some (.int .i64 i):=R1.c1;have f1:=R1.f1;have c2:w1.cell? ⟨p,2,none⟩=some (.int .i64 0):=R1.c2;have f2:=R1.f2;have HR:=hid R1;have HM:=hid M1;clear R1 M1;go_wp2;go_ret;exact ⟨rfl,HR.out.both i k (by omega) e0,HM.out.trans (Mv.both _ _ _ _)⟩
 ·rw [if_neg h0] at ho
  cases ho
  have h0':(er != 0)=true:=by simp [h0]
  go_enter Tryz.func219,Tryz.ntmps219;go_wp2;go_ret;exact ⟨rfl,H.out,Mv.refl _ _⟩
theorem qD7 (bits:Int) (hb1:1 <= bits) (hb2:bits <= 64) (v:Int) (s':RS) (ho:rS bits xs s=(v,s')) :
    Calls Tryz.prog 220 #[.pointer (some ⟨p,0,none⟩),.int .i64 bits] w fun e w'=>e=.returned (.int .i64 v) /\ qNd wB p ao n cap xs w s' w':=by
 have hn63:n <= 9223372036854775807:=by have h1:=h.rd.le;have h2:=h.rd.max;unfold maxLen at h2;omega
 obtain ⟨i,er⟩:=s
 have hi:i <= n:=h.le
 obtain ⟨c0,c1,c2⟩:w.cell? ⟨p,0,none⟩=some (.slice ao n cap) /\ w.cell? ⟨p,1,none⟩=some (.int .i64 i) /\ w.cell? ⟨p,2,none⟩=some (.int .i64 er):=⟨h.c0,h.c1,h.c2⟩
 have H:=hid h
 have hx:=h.rd.len
 clear h
 unfold rS at ho
 simp only at ho
 by_cases h0:er=0
 ·subst h0
  rw [if_pos rfl] at ho
  obtain ⟨v0,k,e0,hd⟩:∃ v0 k e0,decS bits (xs.drop i)=(v0,k,e0):=⟨_,_,_,rfl⟩
  have hsp:=qNb (xs:=xs.drop i) hb1 hb2;rw [hd] at ho hsp;simp only at ho hsp
  cases ho
  have hk:k <= n - i:=by have:=hsp.2.2.1;simp at this;omega
  have hrd:=H.out.now.cut i n hi (qW8 _);rw [qW9 (by omega)] at hrd;have hcut:=vR 37 qGo qGp ao n cap (i:Int) i rfl hi;have HD:=hid hd;have HRD:=hid hrd;have HX:=hid hx;clear hd hrd hx hsp;go_enter Tryz.func220,Tryz.ntmps220;go_wp2;go_quiet ((go_at_call 227;exact Calls.quiet_eq (qWy _ _ _ (xs.drop i) bits _ (HRD.out.below (qW _ _ _)) hb1 hb2 v k e0 HD.out)));have R1:=H.out.drewN nq;have M1:=Mv.drewN p w nq;generalize w.drewN nq=w1 at R1 M1 ⊢;clear c0 c1 c2 hcut;have c1:w1.cell? ⟨p,1,none⟩=some (.int .i64 i):=R1.c1;have f1:=R1.f1;have c2:w1.cell? ⟨p,2,none⟩=some (.int .i64 0):=R1.c2;have f2:=R1.f2;have HR:=hid R1;have HM:=hid M1;clear R1 M1;go_wp2;go_ret;exact ⟨rfl,HR.out.both i k (by omega) e0,HM.out.trans (Mv.both _ _ _ _)⟩
 ·rw [if_neg h0] at ho
  cases ho
  have h0':(er != 0)=true:=by simp [h0]
  go_enter Tryz.func220,Tryz.ntmps220;go_wp2;go_ret;exact ⟨rfl,H.out,Mv.refl _ _⟩
theorem yV (f:Int) (hf:0 <= f /\ f <= 9) (v:Int) (s':RS) (ho:rA f xs s=(v,s')) :
    Calls Tryz.prog 217 #[.pointer (some ⟨p,0,none⟩),.int .i64 f] w fun e w'=>e=.returned (.int .i64 v) /\ qNd wB p ao n cap xs w s' w':=by
 obtain ⟨x,s1,h1⟩:∃ x s1,rU xs s=(x,s1):=⟨_,_,rfl⟩
 obtain ⟨t,ht⟩:∃ t,q9 f x=t:=⟨_,rfl⟩
 unfold rA at ho
 rw [h1] at ho
 simp only at ho
 rw [ht] at ho
 cases ho
 have H:=hid h
 have H1:=hid h1
 have HT:=hid ht
 clear h h1 ht
 go_enter Tryz.func217,Tryz.ntmps217
 go_wp2_with fail
 refine (uB wB w p ao n cap xs s H.out _ s1 H1.out).mono ?_
 rintro e w1 ⟨rfl,R1,M1⟩
 have HR:=hid R1
 have HM:=hid M1
 clear R1 M1
 go_wp2_with fail
 refine (qE3 _ _ _ hf HT.out _).mono ?_
 rintro e w2 ⟨rfl,rfl⟩
 go_wp2_with fail
 refine (qBp wB w1 p ao n cap xs s1 HR.out t _ rfl).mono ?_
 rintro e w2 ⟨rfl,R2,M2⟩
 have HR2:=hid R2
 have HM2:=hid M2
 clear R2 M2
 go_wp2_with fail
 go_ret
 exact ⟨rfl,HR2.out,HM.out.trans HM2.out⟩
theorem qP8 (l':List Int) (s':RS) (ho:rL xs s=(l',s')) :
    Calls Tryz.prog 218 #[.pointer (some ⟨p,0,none⟩)] w fun e w'=>(∃ v,e=.returned v /\ Own 3 .i64 w.heap.size w' v l') /\ qNd wB p ao n cap xs w s' w':=by
 obtain ⟨c,s1,h1⟩:∃ x s1,rU xs s=(x,s1):=⟨_,_,rfl⟩
 have hbd:=qU9 xs s
 rw [h1] at hbd
 simp only at hbd
 unfold rL rCount at ho
 rw [h1] at ho
 simp only at ho
 have hpl:=h.lt
 have H:=hid h
 have H1:=hid h1
 have HO:=hid ho
 clear h h1 ho
 go_enter Tryz.func218,Tryz.ntmps218
 go_wp2_with fail
 refine (uB wB w p ao n cap xs s H.out _ s1 H1.out).mono ?_
 rintro e w1 ⟨rfl,R1,M1⟩
 have HR:=hid R1
 have HM:=hid M1
 clear R1 M1
 go_wp2_with fail
 refine (qBp wB w1 p ao n cap xs s1 HR.out _ _ rfl).mono ?_
 rintro e w2 ⟨rfl,R2,M2⟩
 have HR2:=hid R2
 have HM2:=hid (HM.out.trans M2)
 clear R2 M2 HR HM
 generalize qD4 (decide (c <= 50)) s1=s2 at HO HR2
 obtain ⟨M,rfl⟩:∃ M:Nat,c=M:=⟨c.toNat,by omega⟩
 have HO':Hid (rLs xs M s2=(l',s')):=HO.out
 clear HO H1
 go_wp2_with fail
 go_loopw [4] (fun v wr=>∃ (m:Nat) (l:List Int) (sr:RS),l.length + m=M /\ Own 3 .i64 w.heap.size wr v l /\ Rdr wB wr p ao n cap xs sr /\ Mv p w wr /\ Hid ((l ++ (rLs xs m sr).1,(rLs xs m sr).2)=(l',s'))) (fun v _=>M - qWi v)
 case atStart=>exact ⟨M,[],s2,by simp,Own.nil _ _ _ _,HR2.out,HM2.out,hid (by rw [HO'.out];rfl)⟩
 case round =>
  obtain ⟨m,l,sr,hlm,hown,hR,hM,HE⟩:=hrel;obtain ⟨lo,lc,rfl,hlr⟩:=hown.rd;have hown':=hid hown;have HR:=hid hR;have c2:=hR.c2;have HM:=hid hM;have hszw:=hM.size;obtain ⟨ai,er⟩:=sr;simp only at c2;clear hown hR hM hlr
  obtain ⟨ln,hln⟩:∃ ln,ln=l.length:=⟨_,rfl⟩
  rw [<- hln] at hlm ⊢;have Hln:=hid hln;clear hln
  cases m with
  | zero =>
    have e0:ln=M:=by omega
    subst e0;have HE':=HE.out;simp only [rLs] at HE'
    cases HE'
    go_wp2_with fail;go_ret;rw [Hln.out];exact ⟨⟨_,rfl,by simpa using hown'.out⟩,HR.out,HM.out⟩
  | succ m =>
    have hlt:(ln:Int) < (M:Int):=by omega
    by_cases h0:er=0
    ·subst h0
     obtain ⟨x,s3,hx⟩:∃ x s3,rA 3 xs ⟨ai,0⟩=(x,s3):=⟨_,_,rfl⟩
     have HE':=HE.out;rw [qNc rfl hx] at HE';have HEE:=hid HE';have HX:=hid hx;clear HE' hx HE;go_wp2_with fail;refine (yV wB wr p ao n cap xs _ HR.out 3 (by omega) x s3 HX.out).mono ?_;rintro e w3 ⟨rfl,R3,M3⟩;have HR3:=hid R3;have HM3:=hid M3;have hsz3:=M3.size
     have HWX:Hid ((Lit.int .i64 x).wf=true):=hid (by
      have:=qU9 xs ⟨ai,0⟩;have hx1:x=(rU xs ⟨ai,0⟩).1:=by have:=congrArg Prod.fst HX.out;exact this.symm
      rw [hx1]
      exact WalkArith.wf_i64 ⟨by omega,by omega⟩)
     have hown3:Own 3 .i64 w.heap.size (w3.alloc (.cells #[.int .i64 x] 3)) (.slice lo ln lc) l:=by rw [Hln.out];exact (hown'.out.mv M3 hpl).alloc _
     clear R3 M3
     go_wp2_with (at_builtin;refine qA rfl (.tmp 22) (.tmp 25) 24 rfl 3 .i64 w.heap.size 8 Tryz.underlying24 qE5 _ _ rfl hown3 _ 1 1 _ rfl (Rd.built _ _ _ _ (HWX.out)) (by rw [<- Hln.out];omega) (by rw [<- Hln.out];omega) (by simp;omega) ?_;intro v' w4 h3 h4 _)
     obtain ⟨lo4,lc4,rfl,_⟩:=h3.rd;go_roundw
     case rel =>
      refine ⟨m,l ++ [x],s3,by simp [<- Hln.out];omega,h3,(HR3.out.below (Bl.alloc (Bl.refl _) _)).keep h4 hpl,((HM.out.trans HM3.out).then (Bl.alloc (Bl.refl _) _) ?_).then h4 (qW8 _),?_⟩
      ·omega
      ·exact hid (by rw [<- HEE.out];simp)
     case measure=>simp [qWi,<- Hln.out];omega
    ·have h0':(er == 0)=false:=by simp [h0]
     have HE':=HE.out;rw [qCj h0] at HE'
     cases HE'
     go_wp2_with fail;go_ret;rw [Hln.out];exact ⟨⟨_,rfl,by simpa using hown'.out⟩,HR.out,HM.out⟩
end
open Go.RowKit
theorem yN {xs:List Int} {s s':RS} {v:Int} (hb:Bs xs) (h:vO xs s=(v,s')):0 <= v /\ v <= 255:=by
 unfold vO at h;have:=hb.getD s.at';split at h
 ·split at h
  ·cases h;simp
  ·cases h;exact this
 ·cases h;simp
structure Quad (w:World) (q:Nat) (v0 v1 v2 v3:Value):Prop where
 c0:w.cell? ⟨q,0,none⟩=some v0
 c1:w.cell? ⟨q,1,none⟩=some v1
 c2:w.cell? ⟨q,2,none⟩=some v2
 c3:w.cell? ⟨q,3,none⟩=some v3
 f0:w.frozen? ⟨q,0,none⟩=false
 f1:w.frozen? ⟨q,1,none⟩=false
 f2:w.frozen? ⟨q,2,none⟩=false
 f3:w.frozen? ⟨q,3,none⟩=false
section
variable {w w':World} {q p:Nat} {v0 v1 v2 v3:Value}
theorem Quad.new (w:World) (v0 v1 v2 v3:Value) (T:TypeId):Quad (w.alloc (.cells #[v0,v1,v2,v3] T)) w.heap.size v0 v1 v2 v3:=by
 constructor <;> go_simp
theorem Quad.lt (h:Quad w q v0 v1 v2 v3):q < w.heap.size:=qXc w _ h.c0
theorem Quad.below (h:Quad w q v0 v1 v2 v3) (hb:Below w.heap.size w w'):Quad w' q v0 v1 v2 v3 :=
 have hl:=h.lt
 ⟨(hb.cell (p:=⟨q,0,none⟩) hl).trans h.c0,(hb.cell (p:=⟨q,1,none⟩) hl).trans h.c1,(hb.cell (p:=⟨q,2,none⟩) hl).trans h.c2,(hb.cell (p:=⟨q,3,none⟩) hl).trans h.c3,
  (hb.frozen (p:=⟨q,0,none⟩) hl).trans h.f0,(hb.frozen (p:=⟨q,1,none⟩) hl).trans h.f1,(hb.frozen (p:=⟨q,2,none⟩) hl).trans h.f2,(hb.frozen (p:=⟨q,3,none⟩) hl).trans h.f3⟩
theorem Quad.mv (h:Quad w q v0 v1 v2 v3) (hm:Mv p w w') (hq:q ≠ p):Quad w' q v0 v1 v2 v3 :=
 have hl:=h.lt
 ⟨hm.cell hq h.c0,hm.cell hq h.c1,hm.cell hq h.c2,hm.cell hq h.c3,(hm.frozen hq hl).trans h.f0,(hm.frozen hq hl).trans h.f1,(hm.frozen hq hl).trans h.f2,(hm.frozen hq hl).trans h.f3⟩
theorem Quad.set1 (h:Quad w q v0 v1 v2 v3) (u:Value):Quad (w.setCell ⟨q,1,none⟩ u) q v0 u v2 v3:=by
 obtain ⟨c0,c1,c2,c3,f0,f1,f2,f3⟩:=h;constructor <;> go_simp
theorem Quad.set2 (h:Quad w q v0 v1 v2 v3) (u:Value):Quad (w.setCell ⟨q,2,none⟩ u) q v0 v1 u v3:=by
 obtain ⟨c0,c1,c2,c3,f0,f1,f2,f3⟩:=h;constructor <;> go_simp
theorem Quad.set3 (h:Quad w q v0 v1 v2 v3) (u:Value):Quad (w.setCell ⟨q,3,none⟩ u) q v0 v1 v2 u:=by
 obtain ⟨c0,c1,c2,c3,f0,f1,f2,f3⟩:=h;constructor <;> go_simp
theorem Quad.setAll (h:Quad w q v0 v1 v2 v3) (u0 u1 u2 u3:Value):Quad ((((w.setCell ⟨q,0,none⟩ u0).setCell ⟨q,1,none⟩ u1).setCell ⟨q,2,none⟩ u2).setCell ⟨q,3,none⟩ u3) q u0 u1 u2 u3:=by
 obtain ⟨c0,c1,c2,c3,f0,f1,f2,f3⟩:=h;constructor <;> go_simp
theorem Quad.other (h:Quad w q v0 v1 v2 v3) (hq:q ≠ p) (o:Nat) (u:Value):Quad (w.setCell ⟨p,o,none⟩ u) q v0 v1 v2 v3:=h.mv (Mv.set p o w u) hq
end
theorem Rdr.other {wB w:World} {p q:Nat} {ao:Option Addr} {n cap:Nat} {xs:List Int} {s:RS} (h:Rdr wB w p ao n cap xs s) (hq:p ≠ q) (hB:wB.heap.size <= q) (o:Nat) (u:Value):Rdr wB (w.setCell ⟨q,o,none⟩ u) p ao n cap xs s :=
 have m:=Mv.set q o w u
 ⟨h.base.trans (m.below hB h.base.size),h.hp,h.rd,m.cell hq h.c0,m.cell hq h.c1,m.cell hq h.c2,(m.frozen hq h.lt).trans h.f1,(m.frozen hq h.lt).trans h.f2,h.le⟩
theorem Mv.other {p q:Nat} {w w1:World} (h:Mv p w w1) (hq:w.heap.size <= q) (o:Nat) (u:Value):Mv p w (w1.setCell ⟨q,o,none⟩ u) :=
 h.then ((Mv.set q o w1 u).below hq h.size) (qW8 _)
theorem Own.rdAt {E:TypeId} {k:IntKind} {base:Nat} {w:World} {lo:Option Addr} {n lc:Nat} {xs:List Int} (h:Own E k base w (.slice lo n lc) xs):Rd k w lo n lc xs:=by
 obtain ⟨ao,cap,e,hr⟩:=h.rd
 cases e
 exact hr
structure St (wB w wx:World) (p:Nat) (ao:Option Addr) (n cap:Nat) (xs:List Int) (X:Nat) (s:RS) (op a b:Int) (lo:Option Addr) (ln lc:Nat):Prop where
 r:Rdr wB wx p ao n cap xs s
 m:Mv p w wx
 qa:Quad wx w.heap.size (.int .i64 0) (.int .i64 0) (.int .i64 0) (.slice none 0 0)
 qx:Quad wx X (.int .i64 op) (.int .i64 a) (.int .i64 b) (.slice lo ln lc)
 hx:w.heap.size < X
 hp:p < w.heap.size
section
variable {wB w wx wy:World} {p:Nat} {ao:Option Addr} {n cap:Nat} {xs:List Int} {X:Nat} {s s':RS} {op a b:Int} {lo:Option Addr} {ln lc:Nat}
theorem St.go (h:St wB w wx p ao n cap xs X s op a b lo ln lc) (g:qNd wB p ao n cap xs wx s' wy):St wB w wy p ao n cap xs X s' op a b lo ln lc :=
 ⟨g.1,h.m.trans g.2,h.qa.mv g.2 (by have:=h.hp;omega),h.qx.mv g.2 (by have:=h.hp;have:=h.hx;omega),h.hx,h.hp⟩
theorem St.hB (h:St wB w wx p ao n cap xs X s op a b lo ln lc):wB.heap.size <= X:=by have:=h.hx;have:=h.hp;have:=h.r.hp;omega
theorem St.set1 (h:St wB w wx p ao n cap xs X s op a b lo ln lc) (u:Int):St wB w (wx.setCell ⟨X,1,none⟩ (.int .i64 u)) p ao n cap xs X s op u b lo ln lc :=
 ⟨h.r.other (by have:=h.hx;have:=h.hp;omega) h.hB 1 _,h.m.other (by have:=h.hx;omega) 1 _,h.qa.other (by have:=h.hx;omega) 1 _,h.qx.set1 _,h.hx,h.hp⟩
theorem St.set2 (h:St wB w wx p ao n cap xs X s op a b lo ln lc) (u:Int):St wB w (wx.setCell ⟨X,2,none⟩ (.int .i64 u)) p ao n cap xs X s op a u lo ln lc :=
 ⟨h.r.other (by have:=h.hx;have:=h.hp;omega) h.hB 2 _,h.m.other (by have:=h.hx;omega) 2 _,h.qa.other (by have:=h.hx;omega) 2 _,h.qx.set2 _,h.hx,h.hp⟩
theorem St.set3 (h:St wB w wx p ao n cap xs X s op a b lo ln lc) (lo':Option Addr) (ln' lc':Nat):St wB w (wx.setCell ⟨X,3,none⟩ (.slice lo' ln' lc')) p ao n cap xs X s op a b lo' ln' lc' :=
 ⟨h.r.other (by have:=h.hx;have:=h.hp;omega) h.hB 3 _,h.m.other (by have:=h.hx;omega) 3 _,h.qa.other (by have:=h.hx;omega) 3 _,h.qx.set3 _,h.hx,h.hp⟩
theorem St.fin0 (h:St wB w wx p ao n cap xs X s op a b lo ln lc) :
    qNd wB p ao n cap xs w s ((((wx.setCell ⟨w.heap.size,0,none⟩ (.int .i64 op)).setCell ⟨w.heap.size,1,none⟩ (.int .i64 a)).setCell ⟨w.heap.size,2,none⟩ (.int .i64 b)).setCell ⟨w.heap.size,3,none⟩ (.slice lo ln lc)) /\
    Quad ((((wx.setCell ⟨w.heap.size,0,none⟩ (.int .i64 op)).setCell ⟨w.heap.size,1,none⟩ (.int .i64 a)).setCell ⟨w.heap.size,2,none⟩ (.int .i64 b)).setCell ⟨w.heap.size,3,none⟩ (.slice lo ln lc)) w.heap.size (.int .i64 op) (.int .i64 a) (.int .i64 b) (.slice lo ln lc) :=
 have e:p ≠ w.heap.size:=by have:=h.hp;omega
 have g:wB.heap.size <= w.heap.size:=by have:=h.hp;have:=h.r.hp;omega
 ⟨⟨(((h.r.other e g 0 _).other e g 1 _).other e g 2 _).other e g 3 _,(((h.m.other (qW8 _) 0 _).other (qW8 _) 1 _).other (qW8 _) 2 _).other (qW8 _) 3 _⟩,h.qa.setAll _ _ _ _⟩
theorem St.fin (h:St wB w wx p ao n cap xs X s op a b lo ln lc) :
    ∃ wf,((((wx.setCell ⟨w.heap.size,0,none⟩ (.int .i64 op)).setCell ⟨w.heap.size,1,none⟩ (.int .i64 a)).setCell ⟨w.heap.size,2,none⟩ (.int .i64 b)).setCell ⟨w.heap.size,3,none⟩ (.slice lo ln lc))=wf /\ qNd wB p ao n cap xs w s wf /\
    Quad wf w.heap.size (.int .i64 op) (.int .i64 a) (.int .i64 b) (.slice lo ln lc):=⟨_,rfl,h.fin0.1,h.fin0.2⟩
end
def qNf (wB:World) (p:Nat) (ao:Option Addr) (n cap:Nat) (xs:List Int) (w:World) (I:Ins) (s':RS) (e:Ending) (w':World):Prop :=
 (∃ lo ln lc,e=.returned (iv I.op I.a I.b lo ln lc) /\ Own 3 .i64 w.heap.size w' (.slice lo ln lc) I.l) /\ qNd wB p ao n cap xs w s' w'
theorem qS7 (wB w:World) (p:Nat) (ao:Option Addr) (n cap:Nat) (xs:List Int) (s:RS) (h:Rdr wB w p ao n cap xs s) (op:Int) (s1:RS) (h1:vO xs s=(op,s1)) (hs:sh op=1) :
    Calls Tryz.prog 202 #[.pointer (some ⟨p,0,none⟩)] w (qNf wB p ao n cap xs w ⟨op,0,0,[]⟩ s1):=by
 have hop:0 <= op /\ op <= 255:=yN (fun x hx=>bounds_u8 (h.rd.wf x hx)) h1
 have hpl:=h.lt
 have H:=hid (h.below (Bl.alloc (Bl.refl w) (.cells #[.int .i64 0,.int .i64 0,.int .i64 0,.slice none 0 0] 51)))
 have H1:=hid h1
 have Hs:=hid hs
 clear h h1 hs
 go_enter Tryz.func202,Tryz.ntmps202
 go_wp2_with fail
 refine (yU wB _ p ao n cap xs s H.out op s1 H1.out).mono ?_
 rintro e w1 ⟨rfl,R1,M1⟩
 have hsz1:w.heap.size < w1.heap.size:=by have:=M1.size;simp at this;omega
 have HSa:Hid (St wB w (w1.alloc (.cells #[.int .i64 op,.int .i64 0,.int .i64 0,.slice none 0 0] 51)) p ao n cap xs w1.heap.size s1 op 0 0 none 0 0) :=
  ⟨R1.below (Bl.alloc (Bl.refl _) _),((Mv.of (Bl.alloc (Bl.refl w) _)).trans M1).trans (Mv.of (Bl.alloc (Bl.refl _) _)),((Quad.new w _ _ _ _ _).mv M1 (by omega)).below (Bl.alloc (Bl.refl _) _),Quad.new w1 _ _ _ _ _,hsz1,hpl⟩
 clear R1 M1
 go_wp2_with fail
 refine (jS _ _ Hs.out _).mono ?_
 rintro e w2 ⟨rfl,hb⟩
 have HS0:=hid (HSa.out.go (s':=s1) ⟨HSa.out.r.below hb,Mv.of hb⟩)
 obtain ⟨X,hX⟩:∃ X,X=w1.heap.size:=⟨_,rfl⟩
 rw [<- hX] at HS0 ⊢
 clear hb HSa hX
 obtain ⟨c0,c1,c2,c3,f0,f1,f2,f3⟩:=HS0.out.qx
 obtain ⟨a0,a1,a2,a3,g0,g1,g2,g3⟩:=HS0.out.qa
 have hAX:=HS0.out.hx
 go_wp2_with fail
 obtain ⟨wf,hwf,hret,⟨q0,q1,q2,q3,_,_,_,_⟩⟩:=HS0.out.fin
 rw [hwf]
 clear hwf
 refine bodyPost_ret (v:=iv op 0 0 none 0 0) (by simp [results,Tryz.results202,go_sem,q0,q1,q2,q3]) rfl ⟨⟨_,_,_,rfl,Own.nil _ _ _ _⟩,hret⟩
theorem qS8 (wB w:World) (p:Nat) (ao:Option Addr) (n cap:Nat) (xs:List Int) (s:RS) (h:Rdr wB w p ao n cap xs s) (op:Int) (s1:RS) (h1:vO xs s=(op,s1)) (hs:sh op=2) (a:Int) (s2:RS) (h2:qS3 xs s1=(a,s2)) :
    Calls Tryz.prog 202 #[.pointer (some ⟨p,0,none⟩)] w (qNf wB p ao n cap xs w ⟨op,a,0,[]⟩ s2):=by
 have hop:0 <= op /\ op <= 255:=yN (fun x hx=>bounds_u8 (h.rd.wf x hx)) h1
 have hpl:=h.lt
 have H:=hid (h.below (Bl.alloc (Bl.refl w) (.cells #[.int .i64 0,.int .i64 0,.int .i64 0,.slice none 0 0] 51)))
 have H1:=hid h1
 have Hs:=hid hs
 have H2:=hid h2
 clear h2
 clear h h1 hs
 go_enter Tryz.func202,Tryz.ntmps202
 go_wp2_with fail
 refine (yU wB _ p ao n cap xs s H.out op s1 H1.out).mono ?_
 rintro e w1 ⟨rfl,R1,M1⟩
 have hsz1:w.heap.size < w1.heap.size:=by have:=M1.size;simp at this;omega
 have HSa:Hid (St wB w (w1.alloc (.cells #[.int .i64 op,.int .i64 0,.int .i64 0,.slice none 0 0] 51)) p ao n cap xs w1.heap.size s1 op 0 0 none 0 0) :=
  ⟨R1.below (Bl.alloc (Bl.refl _) _),((Mv.of (Bl.alloc (Bl.refl w) _)).trans M1).trans (Mv.of (Bl.alloc (Bl.refl _) _)),((Quad.new w _ _ _ _ _).mv M1 (by omega)).below (Bl.alloc (Bl.refl _) _),Quad.new w1 _ _ _ _ _,hsz1,hpl⟩
 clear R1 M1
 go_wp2_with fail
 refine (jS _ _ Hs.out _).mono ?_
 rintro e w2 ⟨rfl,hb⟩
 have HS0:=hid (HSa.out.go (s':=s1) ⟨HSa.out.r.below hb,Mv.of hb⟩)
 obtain ⟨X,hX⟩:∃ X,X=w1.heap.size:=⟨_,rfl⟩
 rw [<- hX] at HS0 ⊢
 clear hb HSa hX
 obtain ⟨c0,c1,c2,c3,f0,f1,f2,f3⟩:=HS0.out.qx
 obtain ⟨a0,a1,a2,a3,g0,g1,g2,g3⟩:=HS0.out.qa
 have hAX:=HS0.out.hx
 go_wp2_with fail
 refine (qNe wB _ p ao n cap xs _ HS0.out.r a s2 H2.out).mono ?_
 rintro e w3 ⟨rfl,R,M⟩
 have HT1:=hid (HS0.out.go ⟨R,M⟩)
 have HS1:=hid (HT1.out.set1 a)
 clear R M c0 c1 c2 c3 f0 f1 f2 f3 a0 a1 a2 a3 g0 g1 g2 g3
 obtain ⟨c0,c1,c2,c3,f0,f1,f2,f3⟩:=HT1.out.qx
 obtain ⟨a0,a1,a2,a3,g0,g1,g2,g3⟩:=HT1.out.qa
 go_wp2_with fail
 obtain ⟨wf,hwf,hret,⟨q0,q1,q2,q3,_,_,_,_⟩⟩:=HS1.out.fin
 rw [hwf]
 clear hwf
 refine bodyPost_ret (v:=iv op a 0 none 0 0) (by simp [results,Tryz.results202,go_sem,q0,q1,q2,q3]) rfl ⟨⟨_,_,_,rfl,Own.nil _ _ _ _⟩,hret⟩
theorem qS9 (wB w:World) (p:Nat) (ao:Option Addr) (n cap:Nat) (xs:List Int) (s:RS) (h:Rdr wB w p ao n cap xs s) (op:Int) (s1:RS) (h1:vO xs s=(op,s1)) (hs:sh op=4) (l:List Int) (s2:RS) (h2:rL xs s1=(l,s2)) (a:Int) (s3:RS) (h3:rA 4 xs s2=(a,s3)) :
    Calls Tryz.prog 202 #[.pointer (some ⟨p,0,none⟩)] w (qNf wB p ao n cap xs w ⟨op,a,0,l⟩ s3):=by
 have hop:0 <= op /\ op <= 255:=yN (fun x hx=>bounds_u8 (h.rd.wf x hx)) h1
 have hpl:=h.lt
 have H:=hid (h.below (Bl.alloc (Bl.refl w) (.cells #[.int .i64 0,.int .i64 0,.int .i64 0,.slice none 0 0] 51)))
 have H1:=hid h1
 have Hs:=hid hs
 have H2:=hid h2
 have H3:=hid h3
 clear h2 h3
 clear h h1 hs
 go_enter Tryz.func202,Tryz.ntmps202
 go_wp2_with fail
 refine (yU wB _ p ao n cap xs s H.out op s1 H1.out).mono ?_
 rintro e w1 ⟨rfl,R1,M1⟩
 have hsz1:w.heap.size < w1.heap.size:=by have:=M1.size;simp at this;omega
 have HSa:Hid (St wB w (w1.alloc (.cells #[.int .i64 op,.int .i64 0,.int .i64 0,.slice none 0 0] 51)) p ao n cap xs w1.heap.size s1 op 0 0 none 0 0) :=
  ⟨R1.below (Bl.alloc (Bl.refl _) _),((Mv.of (Bl.alloc (Bl.refl w) _)).trans M1).trans (Mv.of (Bl.alloc (Bl.refl _) _)),((Quad.new w _ _ _ _ _).mv M1 (by omega)).below (Bl.alloc (Bl.refl _) _),Quad.new w1 _ _ _ _ _,hsz1,hpl⟩
 clear R1 M1
 go_wp2_with fail
 refine (jS _ _ Hs.out _).mono ?_
 rintro e w2 ⟨rfl,hb⟩
 have HS0:=hid (HSa.out.go (s':=s1) ⟨HSa.out.r.below hb,Mv.of hb⟩)
 obtain ⟨X,hX⟩:∃ X,X=w1.heap.size:=⟨_,rfl⟩
 rw [<- hX] at HS0 ⊢
 clear hb HSa hX
 obtain ⟨c0,c1,c2,c3,f0,f1,f2,f3⟩:=HS0.out.qx
 obtain ⟨a0,a1,a2,a3,g0,g1,g2,g3⟩:=HS0.out.qa
 have hAX:=HS0.out.hx
 go_wp2_with fail
 refine (qP8 wB _ p ao n cap xs _ HS0.out.r l s2 H2.out).mono ?_
 rintro e w3 ⟨⟨v,rfl,hown⟩,R,M⟩
 obtain ⟨lo,lc,rfl,hlr⟩:=hown.rd
 have HT1:=hid (HS0.out.go ⟨R,M⟩)
 have HS1:=hid (HT1.out.set3 lo l.length lc)
 have hXB:=HS0.out.qx.lt
 have hpB:=HS0.out.r.lt
 have HMz:=hid HS0.out.m.size
 have HO:=hid (hown.mv (Mv.set X 3 w3 (.slice lo l.length lc)) hXB)
 clear hlr hown
 clear R M c0 c1 c2 c3 f0 f1 f2 f3 a0 a1 a2 a3 g0 g1 g2 g3
 obtain ⟨c0,c1,c2,c3,f0,f1,f2,f3⟩:=HT1.out.qx
 obtain ⟨a0,a1,a2,a3,g0,g1,g2,g3⟩:=HT1.out.qa
 go_wp2_with fail
 refine (yV wB _ p ao n cap xs _ HS1.out.r 4 (by omega) a s3 H3.out).mono ?_
 rintro e w4 ⟨rfl,R,M⟩
 have HT2:=hid (HS1.out.go ⟨R,M⟩)
 have HS2:=hid (HT2.out.set1 a)
 have HO:=hid ((HO.out.mv M hpB).mv (Mv.set X 1 w4 (.int .i64 a)) hXB)
 clear R M c0 c1 c2 c3 f0 f1 f2 f3 a0 a1 a2 a3 g0 g1 g2 g3
 obtain ⟨c0,c1,c2,c3,f0,f1,f2,f3⟩:=HT2.out.qx
 obtain ⟨a0,a1,a2,a3,g0,g1,g2,g3⟩:=HT2.out.qa
 go_wp2_with fail
 obtain ⟨wf,hwf,hret,⟨q0,q1,q2,q3,_,_,_,_⟩⟩:=HS2.out.fin
 rw [hwf]
 have HOf:Hid (Own 3 .i64 _ wf (.slice lo l.length lc) l):=hid (by rw [<- hwf];exact ((((HO.out.mv (Mv.set _ 0 _ _) (by omega)).mv (Mv.set _ 1 _ _) (by omega)).mv (Mv.set _ 2 _ _) (by omega)).mv (Mv.set _ 3 _ _) (by omega)))
 clear hwf
 refine bodyPost_ret (v:=iv op a 0 lo l.length lc) (by simp [results,Tryz.results202,go_sem,q0,q1,q2,q3]) rfl ⟨⟨_,_,_,rfl,HOf.out.lift HMz.out⟩,hret⟩
theorem qTa (wB w:World) (p:Nat) (ao:Option Addr) (n cap:Nat) (xs:List Int) (s:RS) (h:Rdr wB w p ao n cap xs s) (op:Int) (s1:RS) (h1:vO xs s=(op,s1)) (hs:sh op=5) (a:Int) (s2:RS) (h2:rA 5 xs s1=(a,s2)) (x:Int) (s3:RS) (h3:vO xs s2=(x,s3)) (s4:RS) (h4:qD4 (x == 0) s3=s4) :
    Calls Tryz.prog 202 #[.pointer (some ⟨p,0,none⟩)] w (qNf wB p ao n cap xs w ⟨op,a,0,[]⟩ s4):=by
 have hop:0 <= op /\ op <= 255:=yN (fun x hx=>bounds_u8 (h.rd.wf x hx)) h1
 have hpl:=h.lt
 have H:=hid (h.below (Bl.alloc (Bl.refl w) (.cells #[.int .i64 0,.int .i64 0,.int .i64 0,.slice none 0 0] 51)))
 have H1:=hid h1
 have Hs:=hid hs
 have H2:=hid h2
 have H3:=hid h3
 have H4:=hid h4
 clear h2 h3 h4
 clear h h1 hs
 go_enter Tryz.func202,Tryz.ntmps202
 go_wp2_with fail
 refine (yU wB _ p ao n cap xs s H.out op s1 H1.out).mono ?_
 rintro e w1 ⟨rfl,R1,M1⟩
 have hsz1:w.heap.size < w1.heap.size:=by have:=M1.size;simp at this;omega
 have HSa:Hid (St wB w (w1.alloc (.cells #[.int .i64 op,.int .i64 0,.int .i64 0,.slice none 0 0] 51)) p ao n cap xs w1.heap.size s1 op 0 0 none 0 0) :=
  ⟨R1.below (Bl.alloc (Bl.refl _) _),((Mv.of (Bl.alloc (Bl.refl w) _)).trans M1).trans (Mv.of (Bl.alloc (Bl.refl _) _)),((Quad.new w _ _ _ _ _).mv M1 (by omega)).below (Bl.alloc (Bl.refl _) _),Quad.new w1 _ _ _ _ _,hsz1,hpl⟩
 clear R1 M1
 go_wp2_with fail
 refine (jS _ _ Hs.out _).mono ?_
 rintro e w2 ⟨rfl,hb⟩
 have HS0:=hid (HSa.out.go (s':=s1) ⟨HSa.out.r.below hb,Mv.of hb⟩)
 obtain ⟨X,hX⟩:∃ X,X=w1.heap.size:=⟨_,rfl⟩
 rw [<- hX] at HS0 ⊢
 clear hb HSa hX
 obtain ⟨c0,c1,c2,c3,f0,f1,f2,f3⟩:=HS0.out.qx
 obtain ⟨a0,a1,a2,a3,g0,g1,g2,g3⟩:=HS0.out.qa
 have hAX:=HS0.out.hx
 go_wp2_with fail
 refine (yV wB _ p ao n cap xs _ HS0.out.r 5 (by omega) a s2 H2.out).mono ?_
 rintro e w3 ⟨rfl,R,M⟩
 have HT1:=hid (HS0.out.go ⟨R,M⟩)
 have HS1:=hid (HT1.out.set1 a)
 clear R M c0 c1 c2 c3 f0 f1 f2 f3 a0 a1 a2 a3 g0 g1 g2 g3
 obtain ⟨c0,c1,c2,c3,f0,f1,f2,f3⟩:=HT1.out.qx
 obtain ⟨a0,a1,a2,a3,g0,g1,g2,g3⟩:=HT1.out.qa
 go_wp2_with fail
 refine (yU wB _ p ao n cap xs _ HS1.out.r x s3 H3.out).mono ?_
 rintro e w4 ⟨rfl,R,M⟩
 have HS2:=hid (HS1.out.go ⟨R,M⟩)
 clear R M c0 c1 c2 c3 f0 f1 f2 f3 a0 a1 a2 a3 g0 g1 g2 g3
 obtain ⟨c0,c1,c2,c3,f0,f1,f2,f3⟩:=HS2.out.qx
 obtain ⟨a0,a1,a2,a3,g0,g1,g2,g3⟩:=HS2.out.qa
 go_wp2_with fail
 refine (qBp wB _ p ao n cap xs _ HS2.out.r (x == 0) s4 H4.out).mono ?_
 rintro e w5 ⟨rfl,R,M⟩
 have HS3:=hid (HS2.out.go ⟨R,M⟩)
 clear R M c0 c1 c2 c3 f0 f1 f2 f3 a0 a1 a2 a3 g0 g1 g2 g3
 obtain ⟨c0,c1,c2,c3,f0,f1,f2,f3⟩:=HS3.out.qx
 obtain ⟨a0,a1,a2,a3,g0,g1,g2,g3⟩:=HS3.out.qa
 go_wp2_with fail
 obtain ⟨wf,hwf,hret,⟨q0,q1,q2,q3,_,_,_,_⟩⟩:=HS3.out.fin
 rw [hwf]
 clear hwf
 refine bodyPost_ret (v:=iv op a 0 none 0 0) (by simp [results,Tryz.results202,go_sem,q0,q1,q2,q3]) rfl ⟨⟨_,_,_,rfl,Own.nil _ _ _ _⟩,hret⟩
theorem qTb (wB w:World) (p:Nat) (ao:Option Addr) (n cap:Nat) (xs:List Int) (s:RS) (h:Rdr wB w p ao n cap xs s) (op:Int) (s1:RS) (h1:vO xs s=(op,s1)) (hs:sh op=7) (x:Int) (s3:RS) (h3:vO xs s1=(x,s3)) (s4:RS) (h4:qD4 (x == 0) s3=s4) :
    Calls Tryz.prog 202 #[.pointer (some ⟨p,0,none⟩)] w (qNf wB p ao n cap xs w ⟨op,0,0,[]⟩ s4):=by
 have hop:0 <= op /\ op <= 255:=yN (fun x hx=>bounds_u8 (h.rd.wf x hx)) h1
 have hpl:=h.lt
 have H:=hid (h.below (Bl.alloc (Bl.refl w) (.cells #[.int .i64 0,.int .i64 0,.int .i64 0,.slice none 0 0] 51)))
 have H1:=hid h1
 have Hs:=hid hs
 have H3:=hid h3
 have H4:=hid h4
 clear h3 h4
 clear h h1 hs
 go_enter Tryz.func202,Tryz.ntmps202
 go_wp2_with fail
 refine (yU wB _ p ao n cap xs s H.out op s1 H1.out).mono ?_
 rintro e w1 ⟨rfl,R1,M1⟩
 have hsz1:w.heap.size < w1.heap.size:=by have:=M1.size;simp at this;omega
 have HSa:Hid (St wB w (w1.alloc (.cells #[.int .i64 op,.int .i64 0,.int .i64 0,.slice none 0 0] 51)) p ao n cap xs w1.heap.size s1 op 0 0 none 0 0) :=
  ⟨R1.below (Bl.alloc (Bl.refl _) _),((Mv.of (Bl.alloc (Bl.refl w) _)).trans M1).trans (Mv.of (Bl.alloc (Bl.refl _) _)),((Quad.new w _ _ _ _ _).mv M1 (by omega)).below (Bl.alloc (Bl.refl _) _),Quad.new w1 _ _ _ _ _,hsz1,hpl⟩
 clear R1 M1
 go_wp2_with fail
 refine (jS _ _ Hs.out _).mono ?_
 rintro e w2 ⟨rfl,hb⟩
 have HS0:=hid (HSa.out.go (s':=s1) ⟨HSa.out.r.below hb,Mv.of hb⟩)
 obtain ⟨X,hX⟩:∃ X,X=w1.heap.size:=⟨_,rfl⟩
 rw [<- hX] at HS0 ⊢
 clear hb HSa hX
 obtain ⟨c0,c1,c2,c3,f0,f1,f2,f3⟩:=HS0.out.qx
 obtain ⟨a0,a1,a2,a3,g0,g1,g2,g3⟩:=HS0.out.qa
 have hAX:=HS0.out.hx
 go_wp2_with fail
 refine (yU wB _ p ao n cap xs _ HS0.out.r x s3 H3.out).mono ?_
 rintro e w3 ⟨rfl,R,M⟩
 have HS1:=hid (HS0.out.go ⟨R,M⟩)
 clear R M c0 c1 c2 c3 f0 f1 f2 f3 a0 a1 a2 a3 g0 g1 g2 g3
 obtain ⟨c0,c1,c2,c3,f0,f1,f2,f3⟩:=HS1.out.qx
 obtain ⟨a0,a1,a2,a3,g0,g1,g2,g3⟩:=HS1.out.qa
 go_wp2_with fail
 refine (qBp wB _ p ao n cap xs _ HS1.out.r (x == 0) s4 H4.out).mono ?_
 rintro e w4 ⟨rfl,R,M⟩
 have HS2:=hid (HS1.out.go ⟨R,M⟩)
 clear R M c0 c1 c2 c3 f0 f1 f2 f3 a0 a1 a2 a3 g0 g1 g2 g3
 obtain ⟨c0,c1,c2,c3,f0,f1,f2,f3⟩:=HS2.out.qx
 obtain ⟨a0,a1,a2,a3,g0,g1,g2,g3⟩:=HS2.out.qa
 go_wp2_with fail
 obtain ⟨wf,hwf,hret,⟨q0,q1,q2,q3,_,_,_,_⟩⟩:=HS2.out.fin
 rw [hwf]
 clear hwf
 refine bodyPost_ret (v:=iv op 0 0 none 0 0) (by simp [results,Tryz.results202,go_sem,q0,q1,q2,q3]) rfl ⟨⟨_,_,_,rfl,Own.nil _ _ _ _⟩,hret⟩
theorem qTc (wB w:World) (p:Nat) (ao:Option Addr) (n cap:Nat) (xs:List Int) (s:RS) (h:Rdr wB w p ao n cap xs s) (op:Int) (s1:RS) (h1:vO xs s=(op,s1)) (hs:sh op=0) (s2:RS) (h2:qD4 false s1=s2) :
    Calls Tryz.prog 202 #[.pointer (some ⟨p,0,none⟩)] w (qNf wB p ao n cap xs w ⟨op,0,0,[]⟩ s2):=by
 have hop:0 <= op /\ op <= 255:=yN (fun x hx=>bounds_u8 (h.rd.wf x hx)) h1
 have hpl:=h.lt
 have H:=hid (h.below (Bl.alloc (Bl.refl w) (.cells #[.int .i64 0,.int .i64 0,.int .i64 0,.slice none 0 0] 51)))
 have H1:=hid h1
 have Hs:=hid hs
 have H2:=hid h2
 clear h2
 clear h h1 hs
 go_enter Tryz.func202,Tryz.ntmps202
 go_wp2_with fail
 refine (yU wB _ p ao n cap xs s H.out op s1 H1.out).mono ?_
 rintro e w1 ⟨rfl,R1,M1⟩
 have hsz1:w.heap.size < w1.heap.size:=by have:=M1.size;simp at this;omega
 have HSa:Hid (St wB w (w1.alloc (.cells #[.int .i64 op,.int .i64 0,.int .i64 0,.slice none 0 0] 51)) p ao n cap xs w1.heap.size s1 op 0 0 none 0 0) :=
  ⟨R1.below (Bl.alloc (Bl.refl _) _),((Mv.of (Bl.alloc (Bl.refl w) _)).trans M1).trans (Mv.of (Bl.alloc (Bl.refl _) _)),((Quad.new w _ _ _ _ _).mv M1 (by omega)).below (Bl.alloc (Bl.refl _) _),Quad.new w1 _ _ _ _ _,hsz1,hpl⟩
 clear R1 M1
 go_wp2_with fail
 refine (jS _ _ Hs.out _).mono ?_
 rintro e w2 ⟨rfl,hb⟩
 have HS0:=hid (HSa.out.go (s':=s1) ⟨HSa.out.r.below hb,Mv.of hb⟩)
 obtain ⟨X,hX⟩:∃ X,X=w1.heap.size:=⟨_,rfl⟩
 rw [<- hX] at HS0 ⊢
 clear hb HSa hX
 obtain ⟨c0,c1,c2,c3,f0,f1,f2,f3⟩:=HS0.out.qx
 obtain ⟨a0,a1,a2,a3,g0,g1,g2,g3⟩:=HS0.out.qa
 have hAX:=HS0.out.hx
 go_wp2_with fail
 refine (qBp wB _ p ao n cap xs _ HS0.out.r false s2 H2.out).mono ?_
 rintro e w3 ⟨rfl,R,M⟩
 have HS1:=hid (HS0.out.go ⟨R,M⟩)
 clear R M c0 c1 c2 c3 f0 f1 f2 f3 a0 a1 a2 a3 g0 g1 g2 g3
 obtain ⟨c0,c1,c2,c3,f0,f1,f2,f3⟩:=HS1.out.qx
 obtain ⟨a0,a1,a2,a3,g0,g1,g2,g3⟩:=HS1.out.qa
 go_wp2_with fail
 obtain ⟨wf,hwf,hret,⟨q0,q1,q2,q3,_,_,_,_⟩⟩:=HS1.out.fin
 rw [hwf]
 clear hwf
 refine bodyPost_ret (v:=iv op 0 0 none 0 0) (by simp [results,Tryz.results202,go_sem,q0,q1,q2,q3]) rfl ⟨⟨_,_,_,rfl,Own.nil _ _ _ _⟩,hret⟩
theorem qTd (wB w:World) (p:Nat) (ao:Option Addr) (n cap:Nat) (xs:List Int) (s:RS) (h:Rdr wB w p ao n cap xs s) (op:Int) (s1:RS) (h1:vO xs s=(op,s1)) (hs:sh op=6) (a:Int) (s2:RS) (h2:rA 6 xs s1=(a,s2)) (b:Int) (s3:RS) (h3:rU xs s2=(b,s3)) :
    Calls Tryz.prog 202 #[.pointer (some ⟨p,0,none⟩)] w (qNf wB p ao n cap xs w ⟨op,a,b,[]⟩ s3):=by
 have hop:0 <= op /\ op <= 255:=yN (fun x hx=>bounds_u8 (h.rd.wf x hx)) h1
 have hpl:=h.lt
 have H:=hid (h.below (Bl.alloc (Bl.refl w) (.cells #[.int .i64 0,.int .i64 0,.int .i64 0,.slice none 0 0] 51)))
 have H1:=hid h1
 have Hs:=hid hs
 have H2:=hid h2
 have H3:=hid h3
 clear h2 h3
 clear h h1 hs
 go_enter Tryz.func202,Tryz.ntmps202
 go_wp2_with fail
 refine (yU wB _ p ao n cap xs s H.out op s1 H1.out).mono ?_
 rintro e w1 ⟨rfl,R1,M1⟩
 have hsz1:w.heap.size < w1.heap.size:=by have:=M1.size;simp at this;omega
 have HSa:Hid (St wB w (w1.alloc (.cells #[.int .i64 op,.int .i64 0,.int .i64 0,.slice none 0 0] 51)) p ao n cap xs w1.heap.size s1 op 0 0 none 0 0) :=
  ⟨R1.below (Bl.alloc (Bl.refl _) _),((Mv.of (Bl.alloc (Bl.refl w) _)).trans M1).trans (Mv.of (Bl.alloc (Bl.refl _) _)),((Quad.new w _ _ _ _ _).mv M1 (by omega)).below (Bl.alloc (Bl.refl _) _),Quad.new w1 _ _ _ _ _,hsz1,hpl⟩
 clear R1 M1
 go_wp2_with fail
 refine (jS _ _ Hs.out _).mono ?_
 rintro e w2 ⟨rfl,hb⟩
 have HS0:=hid (HSa.out.go (s':=s1) ⟨HSa.out.r.below hb,Mv.of hb⟩)
 obtain ⟨X,hX⟩:∃ X,X=w1.heap.size:=⟨_,rfl⟩
 rw [<- hX] at HS0 ⊢
 clear hb HSa hX
 obtain ⟨c0,c1,c2,c3,f0,f1,f2,f3⟩:=HS0.out.qx
 obtain ⟨a0,a1,a2,a3,g0,g1,g2,g3⟩:=HS0.out.qa
 have hAX:=HS0.out.hx
 go_wp2_with fail
 refine (yV wB _ p ao n cap xs _ HS0.out.r 6 (by omega) a s2 H2.out).mono ?_
 rintro e w3 ⟨rfl,R,M⟩
 have HT1:=hid (HS0.out.go ⟨R,M⟩)
 have HS1:=hid (HT1.out.set1 a)
 clear R M c0 c1 c2 c3 f0 f1 f2 f3 a0 a1 a2 a3 g0 g1 g2 g3
 obtain ⟨c0,c1,c2,c3,f0,f1,f2,f3⟩:=HT1.out.qx
 obtain ⟨a0,a1,a2,a3,g0,g1,g2,g3⟩:=HT1.out.qa
 go_wp2_with fail
 refine (uB wB _ p ao n cap xs _ HS1.out.r b s3 H3.out).mono ?_
 rintro e w4 ⟨rfl,R,M⟩
 have HT2:=hid (HS1.out.go ⟨R,M⟩)
 have HS2:=hid (HT2.out.set2 b)
 clear R M c0 c1 c2 c3 f0 f1 f2 f3 a0 a1 a2 a3 g0 g1 g2 g3
 obtain ⟨c0,c1,c2,c3,f0,f1,f2,f3⟩:=HT2.out.qx
 obtain ⟨a0,a1,a2,a3,g0,g1,g2,g3⟩:=HT2.out.qa
 go_wp2_with fail
 obtain ⟨wf,hwf,hret,⟨q0,q1,q2,q3,_,_,_,_⟩⟩:=HS2.out.fin
 rw [hwf]
 clear hwf
 refine bodyPost_ret (v:=iv op a b none 0 0) (by simp [results,Tryz.results202,go_sem,q0,q1,q2,q3]) rfl ⟨⟨_,_,_,rfl,Own.nil _ _ _ _⟩,hret⟩
theorem qTe (wB w:World) (p:Nat) (ao:Option Addr) (n cap:Nat) (xs:List Int) (s:RS) (h:Rdr wB w p ao n cap xs s) (op:Int) (s1:RS) (h1:vO xs s=(op,s1)) (hs:sh op=8) (a:Int) (s2:RS) (h2:rS 32 xs s1=(a,s2)) :
    Calls Tryz.prog 202 #[.pointer (some ⟨p,0,none⟩)] w (qNf wB p ao n cap xs w ⟨op,a,0,[]⟩ s2):=by
 have hop:0 <= op /\ op <= 255:=yN (fun x hx=>bounds_u8 (h.rd.wf x hx)) h1
 have hpl:=h.lt
 have H:=hid (h.below (Bl.alloc (Bl.refl w) (.cells #[.int .i64 0,.int .i64 0,.int .i64 0,.slice none 0 0] 51)))
 have H1:=hid h1
 have Hs:=hid hs
 have H2:=hid h2
 clear h2
 clear h h1 hs
 go_enter Tryz.func202,Tryz.ntmps202
 go_wp2_with fail
 refine (yU wB _ p ao n cap xs s H.out op s1 H1.out).mono ?_
 rintro e w1 ⟨rfl,R1,M1⟩
 have hsz1:w.heap.size < w1.heap.size:=by have:=M1.size;simp at this;omega
 have HSa:Hid (St wB w (w1.alloc (.cells #[.int .i64 op,.int .i64 0,.int .i64 0,.slice none 0 0] 51)) p ao n cap xs w1.heap.size s1 op 0 0 none 0 0) :=
  ⟨R1.below (Bl.alloc (Bl.refl _) _),((Mv.of (Bl.alloc (Bl.refl w) _)).trans M1).trans (Mv.of (Bl.alloc (Bl.refl _) _)),((Quad.new w _ _ _ _ _).mv M1 (by omega)).below (Bl.alloc (Bl.refl _) _),Quad.new w1 _ _ _ _ _,hsz1,hpl⟩
 clear R1 M1
 go_wp2_with fail
 refine (jS _ _ Hs.out _).mono ?_
 rintro e w2 ⟨rfl,hb⟩
 have HS0:=hid (HSa.out.go (s':=s1) ⟨HSa.out.r.below hb,Mv.of hb⟩)
 obtain ⟨X,hX⟩:∃ X,X=w1.heap.size:=⟨_,rfl⟩
 rw [<- hX] at HS0 ⊢
 clear hb HSa hX
 obtain ⟨c0,c1,c2,c3,f0,f1,f2,f3⟩:=HS0.out.qx
 obtain ⟨a0,a1,a2,a3,g0,g1,g2,g3⟩:=HS0.out.qa
 have hAX:=HS0.out.hx
 go_wp2_with fail
 refine (qD7 wB _ p ao n cap xs _ HS0.out.r 32 (by omega) (by omega) a s2 H2.out).mono ?_
 rintro e w3 ⟨rfl,R,M⟩
 have HT1:=hid (HS0.out.go ⟨R,M⟩)
 have HS1:=hid (HT1.out.set1 a)
 clear R M c0 c1 c2 c3 f0 f1 f2 f3 a0 a1 a2 a3 g0 g1 g2 g3
 obtain ⟨c0,c1,c2,c3,f0,f1,f2,f3⟩:=HT1.out.qx
 obtain ⟨a0,a1,a2,a3,g0,g1,g2,g3⟩:=HT1.out.qa
 go_wp2_with fail
 obtain ⟨wf,hwf,hret,⟨q0,q1,q2,q3,_,_,_,_⟩⟩:=HS1.out.fin
 rw [hwf]
 clear hwf
 refine bodyPost_ret (v:=iv op a 0 none 0 0) (by simp [results,Tryz.results202,go_sem,q0,q1,q2,q3]) rfl ⟨⟨_,_,_,rfl,Own.nil _ _ _ _⟩,hret⟩
theorem qTf (wB w:World) (p:Nat) (ao:Option Addr) (n cap:Nat) (xs:List Int) (s:RS) (h:Rdr wB w p ao n cap xs s) (op:Int) (s1:RS) (h1:vO xs s=(op,s1)) (hs:sh op=9) (a:Int) (s2:RS) (h2:rS 64 xs s1=(a,s2)) :
    Calls Tryz.prog 202 #[.pointer (some ⟨p,0,none⟩)] w (qNf wB p ao n cap xs w ⟨op,a,0,[]⟩ s2):=by
 have hop:0 <= op /\ op <= 255:=yN (fun x hx=>bounds_u8 (h.rd.wf x hx)) h1
 have hpl:=h.lt
 have H:=hid (h.below (Bl.alloc (Bl.refl w) (.cells #[.int .i64 0,.int .i64 0,.int .i64 0,.slice none 0 0] 51)))
 have H1:=hid h1
 have Hs:=hid hs
 have H2:=hid h2
 clear h2
 clear h h1 hs
 go_enter Tryz.func202,Tryz.ntmps202
 go_wp2_with fail
 refine (yU wB _ p ao n cap xs s H.out op s1 H1.out).mono ?_
 rintro e w1 ⟨rfl,R1,M1⟩
 have hsz1:w.heap.size < w1.heap.size:=by have:=M1.size;simp at this;omega
 have HSa:Hid (St wB w (w1.alloc (.cells #[.int .i64 op,.int .i64 0,.int .i64 0,.slice none 0 0] 51)) p ao n cap xs w1.heap.size s1 op 0 0 none 0 0) :=
  ⟨R1.below (Bl.alloc (Bl.refl _) _),((Mv.of (Bl.alloc (Bl.refl w) _)).trans M1).trans (Mv.of (Bl.alloc (Bl.refl _) _)),((Quad.new w _ _ _ _ _).mv M1 (by omega)).below (Bl.alloc (Bl.refl _) _),Quad.new w1 _ _ _ _ _,hsz1,hpl⟩
 clear R1 M1
 go_wp2_with fail
 refine (jS _ _ Hs.out _).mono ?_
 rintro e w2 ⟨rfl,hb⟩
 have HS0:=hid (HSa.out.go (s':=s1) ⟨HSa.out.r.below hb,Mv.of hb⟩)
 obtain ⟨X,hX⟩:∃ X,X=w1.heap.size:=⟨_,rfl⟩
 rw [<- hX] at HS0 ⊢
 clear hb HSa hX
 obtain ⟨c0,c1,c2,c3,f0,f1,f2,f3⟩:=HS0.out.qx
 obtain ⟨a0,a1,a2,a3,g0,g1,g2,g3⟩:=HS0.out.qa
 have hAX:=HS0.out.hx
 go_wp2_with fail
 refine (qD7 wB _ p ao n cap xs _ HS0.out.r 64 (by omega) (by omega) a s2 H2.out).mono ?_
 rintro e w3 ⟨rfl,R,M⟩
 have HT1:=hid (HS0.out.go ⟨R,M⟩)
 have HS1:=hid (HT1.out.set1 a)
 clear R M c0 c1 c2 c3 f0 f1 f2 f3 a0 a1 a2 a3 g0 g1 g2 g3
 obtain ⟨c0,c1,c2,c3,f0,f1,f2,f3⟩:=HT1.out.qx
 obtain ⟨a0,a1,a2,a3,g0,g1,g2,g3⟩:=HT1.out.qa
 go_wp2_with fail
 obtain ⟨wf,hwf,hret,⟨q0,q1,q2,q3,_,_,_,_⟩⟩:=HS1.out.fin
 rw [hwf]
 clear hwf
 refine bodyPost_ret (v:=iv op a 0 none 0 0) (by simp [results,Tryz.results202,go_sem,q0,q1,q2,q3]) rfl ⟨⟨_,_,_,rfl,Own.nil _ _ _ _⟩,hret⟩
theorem qTg (wB w:World) (p:Nat) (ao:Option Addr) (n cap:Nat) (xs:List Int) (s:RS) (h:Rdr wB w p ao n cap xs s) (op:Int) (s1:RS) (h1:vO xs s=(op,s1)) (hs:sh op=3) (a:Int) (s2:RS) (h2:rA 3 xs s1=(a,s2)) :
    Calls Tryz.prog 202 #[.pointer (some ⟨p,0,none⟩)] w (qNf wB p ao n cap xs w ⟨op,a,0,[]⟩ s2):=by
 have hop:0 <= op /\ op <= 255:=yN (fun x hx=>bounds_u8 (h.rd.wf x hx)) h1
 have hpl:=h.lt
 have H:=hid (h.below (Bl.alloc (Bl.refl w) (.cells #[.int .i64 0,.int .i64 0,.int .i64 0,.slice none 0 0] 51)))
 have H1:=hid h1
 have Hs:=hid hs
 have H2:=hid h2
 clear h2
 clear h h1 hs
 go_enter Tryz.func202,Tryz.ntmps202
 go_wp2_with fail
 refine (yU wB _ p ao n cap xs s H.out op s1 H1.out).mono ?_
 rintro e w1 ⟨rfl,R1,M1⟩
 have hsz1:w.heap.size < w1.heap.size:=by have:=M1.size;simp at this;omega
 have HSa:Hid (St wB w (w1.alloc (.cells #[.int .i64 op,.int .i64 0,.int .i64 0,.slice none 0 0] 51)) p ao n cap xs w1.heap.size s1 op 0 0 none 0 0) :=
  ⟨R1.below (Bl.alloc (Bl.refl _) _),((Mv.of (Bl.alloc (Bl.refl w) _)).trans M1).trans (Mv.of (Bl.alloc (Bl.refl _) _)),((Quad.new w _ _ _ _ _).mv M1 (by omega)).below (Bl.alloc (Bl.refl _) _),Quad.new w1 _ _ _ _ _,hsz1,hpl⟩
 clear R1 M1
 go_wp2_with fail
 refine (jS _ _ Hs.out _).mono ?_
 rintro e w2 ⟨rfl,hb⟩
 have HS0:=hid (HSa.out.go (s':=s1) ⟨HSa.out.r.below hb,Mv.of hb⟩)
 obtain ⟨X,hX⟩:∃ X,X=w1.heap.size:=⟨_,rfl⟩
 rw [<- hX] at HS0 ⊢
 clear hb HSa hX
 obtain ⟨c0,c1,c2,c3,f0,f1,f2,f3⟩:=HS0.out.qx
 obtain ⟨a0,a1,a2,a3,g0,g1,g2,g3⟩:=HS0.out.qa
 have hAX:=HS0.out.hx
 go_wp2_with fail
 refine (yV wB _ p ao n cap xs _ HS0.out.r 3 (by omega) a s2 H2.out).mono ?_
 rintro e w3 ⟨rfl,R,M⟩
 have HT1:=hid (HS0.out.go ⟨R,M⟩)
 have HS1:=hid (HT1.out.set1 a)
 clear R M c0 c1 c2 c3 f0 f1 f2 f3 a0 a1 a2 a3 g0 g1 g2 g3
 obtain ⟨c0,c1,c2,c3,f0,f1,f2,f3⟩:=HT1.out.qx
 obtain ⟨a0,a1,a2,a3,g0,g1,g2,g3⟩:=HT1.out.qa
 go_wp2_with fail
 obtain ⟨wf,hwf,hret,⟨q0,q1,q2,q3,_,_,_,_⟩⟩:=HS1.out.fin
 rw [hwf]
 clear hwf
 refine bodyPost_ret (v:=iv op a 0 none 0 0) (by simp [results,Tryz.results202,go_sem,q0,q1,q2,q3]) rfl ⟨⟨_,_,_,rfl,Own.nil _ _ _ _⟩,hret⟩
theorem qP9 (wB w:World) (p:Nat) (ao:Option Addr) (n cap:Nat) (xs:List Int) (s:RS) (h:Rdr wB w p ao n cap xs s) (op:Int) (s1:RS) (h1:vO xs s=(op,s1)) (I:Ins) (s':RS) (ht:rTail xs op s1=(I,s')) :
    Calls Tryz.prog 202 #[.pointer (some ⟨p,0,none⟩)] w (qNf wB p ao n cap xs w I s'):=by
 have hb:=yB op
 have e:sh op=0 ∨ sh op=1 ∨ sh op=2 ∨ sh op=3 ∨ sh op=4 ∨ sh op=5 ∨ sh op=6 ∨ sh op=7 ∨ sh op=8 ∨ sh op=9:=by omega
 unfold rTail at ht
 rcases e with e | e | e | e | e | e | e | e | e | e <;> simp only [e] at ht <;> simp at ht <;> obtain ⟨rfl,rfl⟩:=ht
 ·exact qTc wB w p ao n cap xs s h op s1 h1 e _ rfl
 ·exact qS7 wB w p ao n cap xs s h op s1 h1 e
 ·exact qS8 wB w p ao n cap xs s h op s1 h1 e _ _ rfl
 ·exact qTg wB w p ao n cap xs s h op s1 h1 e _ _ rfl
 ·exact qS9 wB w p ao n cap xs s h op s1 h1 e _ _ rfl _ _ rfl
 ·exact qTa wB w p ao n cap xs s h op s1 h1 e _ _ rfl _ _ rfl _ rfl
 ·exact qTd wB w p ao n cap xs s h op s1 h1 e _ _ rfl _ _ rfl
 ·exact qTb wB w p ao n cap xs s h op s1 h1 e _ _ rfl _ rfl
 ·exact qTe wB w p ao n cap xs s h op s1 h1 e _ _ rfl
 ·exact qTf wB w p ao n cap xs s h op s1 h1 e _ _ rfl
theorem qNg {w w1:World} {A:Nat} {z0 z1 z2 z3:Value} (Q:Quad w1 A z0 z1 z2 z3) (hA:w.heap.size <= A) (HB:Below w.heap.size w w1) (u0 u1 u2 u3:Value) (o:Obj) :
    ∃ wf,(((((w1.setCell ⟨A,0,none⟩ u0).setCell ⟨A,1,none⟩ u1).setCell ⟨A,2,none⟩ u2).setCell ⟨A,3,none⟩ u3).alloc o).drew=wf /\ Quad wf A u0 u1 u2 u3 /\ Below w.heap.size w wf /\
     (∀ (E:TypeId) (k:IntKind) (base:Nat) (v:Value) (xs:List Int),A < base -> Own E k base w1 v xs -> Own E k base wf v xs) :=
 ⟨_,rfl,((Q.setAll u0 u1 u2 u3).below (Bl.alloc (Bl.refl _) o)).below (qXh _ _).drew,
  (Bl.alloc (Bl.set (Bl.set (Bl.set (Bl.set HB hA _) hA _) hA _) hA _) o).drew,
  fun _ _ _ _ _ hb h=>((((((h.mv (Mv.set A 0 _ u0) hb).mv (Mv.set A 1 _ u1) hb).mv (Mv.set A 2 _ u2) hb).mv (Mv.set A 3 _ u3) hb)).alloc o).drew⟩
def qWz (w:World) (I:Ins) (k:Nat) (er:Int) (e:Ending) (w':World):Prop :=
 ∃ lo ln lc,e=.returned (.tuple #[iv I.op I.a I.b lo ln lc,.int .i64 k,.int .i64 er]) /\ Own 3 .i64 w.heap.size w' (.slice lo ln lc) I.l /\ Below w.heap.size w w'
theorem qRq (ao:Option Addr) (n cap:Nat) (xs:List Int) (w:World) (hr:Rd .u8 w ao n cap xs) (I:Ins) (k:Nat) (er:Int) (hg:getI xs=(I,k,er)) :
    Calls Tryz.prog 190 #[.slice ao n cap] w (qWz w I k er):=by
 obtain ⟨op,s1,h1⟩:∃ op s1,vO xs ⟨0,0⟩=(op,s1):=⟨_,_,rfl⟩
 obtain ⟨J,s2,h2⟩:∃ J s2,rTail xs op s1=(J,s2):=⟨_,_,rfl⟩
 have hg':(if s2.err=0 then (J,s2.at',0) else (⟨0,0,0,[]⟩,0,s2.err))=(I,k,er):=by
  unfold getI rIns at hg;rw [h1] at hg;simp only at hg;rw [h2] at hg;exact hg
 obtain ⟨w0,hw0⟩:∃ w0,w0=(w.alloc (.cells #[.int .i64 0,.int .i64 0,.int .i64 0,.slice none 0 0] 51)).alloc (.cells #[.slice ao n cap,.int .i64 0,.int .i64 0] 239):=⟨_,rfl⟩
 have hR:Rdr w w0 (w.heap.size + 1) ao n cap xs ⟨0,0⟩:=by
  rw [hw0];refine ⟨Bl.alloc (Bl.alloc (Bl.refl w) _) _,by omega,hr,?_,?_,?_,?_,?_,qXf _⟩ <;> go_simp
 have hQ:Quad w0 w.heap.size (.int .i64 0) (.int .i64 0) (.int .i64 0) (.slice none 0 0):=by
  rw [hw0];exact (Quad.new w _ _ _ _ _).below (Bl.alloc (Bl.refl _) _)
 have HR:=hid hR
 have HQ:=hid hQ
 have HW:=hid hw0
 have H1:=hid h1
 have H2:=hid h2
 have HG:=hid hg'
 have Hb0:=hid hR.base
 have Hz0:=hid hR.lt
 clear hR hQ hw0 h1 h2 hg' hg hr
 go_enter Tryz.func190,Tryz.ntmps190
 go_wp2_with fail
 rw [<- HW.out]
 refine (qP9 w w0 (w.heap.size + 1) ao n cap xs ⟨0,0⟩ HR.out op s1 H1.out J s2 H2.out).mono ?_
 rintro e w1 ⟨⟨lo,ln,lc,rfl,hown⟩,R,M⟩
 obtain ⟨P,hP⟩:∃ P,P=w.heap.size + 1:=⟨_,rfl⟩
 rw [<- hP] at R M ⊢
 have hPA:P ≠ w.heap.size:=by omega
 obtain ⟨i2,e2⟩:=s2
 have c1:w1.cell? ⟨P,1,none⟩=some (.int .i64 i2):=R.c1
 have c2:w1.cell? ⟨P,2,none⟩=some (.int .i64 e2):=R.c2
 obtain ⟨a0,a1,a2,a3,g0,g1,g2,g3⟩:=HQ.out.mv M (by omega)
 have hA1:w.heap.size < w1.heap.size:=qXc w1 _ a0
 have hP1:P < w1.heap.size:=R.lt
 have Q1:=hid (HQ.out.mv M (by omega))
 have Hown:=hid hown
 have HB:=hid R.base
 clear R M hown HR HW H1 H2 HQ
 have Hz1:=hid (show w.heap.size <= w0.heap.size by have:=Hz0.out;omega)
 have HP:=hid hP
 clear hP
 by_cases h0:e2=0
 ·subst h0
  have hg:=HG.out;rw [if_pos rfl] at hg
  cases hg
  go_wp2_with fail;go_region;obtain ⟨wf,hwf,⟨q0,q1,q2,q3,_,_,_,_⟩,hbf,hof⟩:=qNg (w:=w) Q1.out (qW8 _) HB.out (.int .i64 I.op) (.int .i64 I.a) (.int .i64 I.b) (.slice lo ln lc) (.cells #[.int .i64 I.op,.int .i64 I.a,.int .i64 I.b,.slice lo ln lc] 51);rw [hwf];have Hof:=hid (hof 3 .i64 _ _ _ (by have:=Hz0.out;omega) Hown.out);clear hwf hof;go_wp2_with fail;refine bodyPost_ret (v:=.tuple #[iv I.op I.a I.b lo ln lc,.int .i64 i2,.int .i64 0]) (by simp [results,Tryz.results190,go_sem,q0,q1,q2,q3]) rfl ⟨_,_,_,rfl,Hof.out.lift Hz1.out,hbf⟩
 ·have h0':(e2 != 0)=true:=by simp [h0]
  have hg:=HG.out;rw [if_neg h0] at hg
  cases hg
  go_wp2_with fail;go_region;obtain ⟨wf,hwf,⟨q0,q1,q2,q3,_,_,_,_⟩,hbf,hof⟩:=qNg (w:=w) Q1.out (qW8 _) HB.out (.int .i64 0) (.int .i64 0) (.int .i64 0) (.slice none 0 0) (.cells #[.int .i64 J.op,.int .i64 J.a,.int .i64 J.b,.slice lo ln lc] 51);rw [hwf];have Hof:=hid (hof 3 .i64 _ _ _ (by have:=Hz0.out;omega) Hown.out);clear hwf hof;go_wp2_with fail;refine bodyPost_ret (v:=.tuple #[iv 0 0 0 none 0 0,.int .i64 (0:Nat),.int .i64 e2]) (by simp [results,Tryz.results190,go_sem,q0,q1,q2,q3]) rfl ⟨_,_,_,rfl,Own.nil _ _ _ _,hbf⟩
theorem Quad.keep {w w':World} {q B:Nat} {v0 v1 v2 v3:Value} (h:Quad w q v0 v1 v2 v3) (hb:Below B w w') (hl:q < B):Quad w' q v0 v1 v2 v3 :=
 ⟨(hb.cell (p:=⟨q,0,none⟩) hl).trans h.c0,(hb.cell (p:=⟨q,1,none⟩) hl).trans h.c1,(hb.cell (p:=⟨q,2,none⟩) hl).trans h.c2,(hb.cell (p:=⟨q,3,none⟩) hl).trans h.c3,
  (hb.frozen (p:=⟨q,0,none⟩) hl).trans h.f0,(hb.frozen (p:=⟨q,1,none⟩) hl).trans h.f1,(hb.frozen (p:=⟨q,2,none⟩) hl).trans h.f2,(hb.frozen (p:=⟨q,3,none⟩) hl).trans h.f3⟩
open Go.RowKit
theorem Box4.mv4 {w w':World} {p q:Nat} {op x y:Int} {ao:Option Addr} {n cap:Nat} (h:Box4 w q op x y ao n cap) (hm:Mv p w w') (hq:q ≠ p):Box4 w' q op x y ao n cap :=
 ⟨hm.cell hq h.c0,hm.cell hq h.c1,hm.cell hq h.c2,hm.cell hq h.c3⟩
theorem qQa {w w1:World} {A:Nat} {z0 z1 z2 z3:Value} (Q:Quad w1 A z0 z1 z2 z3) (hA:w.heap.size <= A) (HB:Below w.heap.size w w1) (u0 u1 u2 u3:Value) :
    ∃ wf,((((w1.setCell ⟨A,0,none⟩ u0).setCell ⟨A,1,none⟩ u1).setCell ⟨A,2,none⟩ u2).setCell ⟨A,3,none⟩ u3)=wf /\ Quad wf A u0 u1 u2 u3 /\ Below w.heap.size w wf /\
     (∀ (E:TypeId) (k:IntKind) (base:Nat) (v:Value) (xs:List Int),A < base -> Own E k base w1 v xs -> Own E k base wf v xs) :=
 ⟨_,rfl,Q.setAll u0 u1 u2 u3,Bl.set (Bl.set (Bl.set (Bl.set HB hA _) hA _) hA _) hA _,
  fun _ _ _ _ _ hb h=>(((h.mv (Mv.set A 0 _ u0) hb).mv (Mv.set A 1 _ u1) hb).mv (Mv.set A 2 _ u2) hb).mv (Mv.set A 3 _ u3) hb⟩
theorem qVa (op p q:Int) (ao:Option Addr) (n cap:Nat) (l:List Int) (w:World) (hr:Rd .i64 w ao n cap l) :
    Calls Tryz.prog 57 #[iv op p q ao n cap] w fun e w'=>∃ lo ln lc,e=.returned (iv op p q lo ln lc) /\ Own 3 .i64 w.heap.size w' (.slice lo ln lc) (l.take 55) /\ Below w.heap.size w w':=by
 have hn63:n <= 9223372036854775807:=by have h1:=hr.le;have h2:=hr.max;unfold maxLen at h2;omega
 have Hr:=hid hr
 have Hx:=hid hr.len
 clear hr
 obtain ⟨w0,hw0⟩:∃ w0,w0=((w.alloc (.cells #[.int .i64 op,.int .i64 p,.int .i64 q,.slice ao n cap] 51)).alloc (.cells #[.int .i64 0,.int .i64 0,.int .i64 0,.slice none 0 0] 51)).alloc (.cells #[.int .i64 op,.int .i64 p,.int .i64 q,.slice none 0 0] 51):=⟨_,rfl⟩
 obtain ⟨X,hX⟩:∃ X,X=w.heap.size + 1 + 1:=⟨_,rfl⟩
 obtain ⟨B,hB⟩:∃ B,B=w.heap.size + 1 + 1 + 1:=⟨_,rfl⟩
 have HX0:Hid (Quad w0 X (.int .i64 op) (.int .i64 p) (.int .i64 q) (.slice none 0 0)):=by
  rw [hw0,hX];have:=Quad.new ((w.alloc (.cells #[.int .i64 op,.int .i64 p,.int .i64 q,.slice ao n cap] 51)).alloc (.cells #[.int .i64 0,.int .i64 0,.int .i64 0,.slice none 0 0] 51)) (.int .i64 op) (.int .i64 p) (.int .i64 q) (.slice none 0 0) 51;exact hid (by simpa using this)
 have HA0:Hid (Quad w0 (w.heap.size + 1) (.int .i64 0) (.int .i64 0) (.int .i64 0) (.slice none 0 0)):=by
  rw [hw0];have:=(Quad.new (w.alloc (.cells #[.int .i64 op,.int .i64 p,.int .i64 q,.slice ao n cap] 51)) (.int .i64 0) (.int .i64 0) (.int .i64 0) (.slice none 0 0) 51).below (Bl.alloc (Bl.refl _) (.cells #[.int .i64 op,.int .i64 p,.int .i64 q,.slice none 0 0] 51));exact hid (by simpa using this)
 have HB0:Hid (Box4 w0 w.heap.size op p q ao n cap):=by
  rw [hw0];exact hid (((Box4.new w op p q ao n cap 51).below (Bl.alloc (Bl.refl _) _)).below (Bl.alloc (Bl.refl _) _))
 have hBl0:Hid (Below w.heap.size w w0):=by
  rw [hw0];exact hid (Bl.alloc (Bl.alloc (Bl.alloc (Bl.refl w) _) _) _)
 have hB0:Hid (B <= w0.heap.size):=by
  rw [hw0,hB];exact hid (by simp)
 have HW:=hid hw0
 have HXE:=hid hX
 have hAX:w.heap.size + 1 ≠ X:=by omega
 have hxX:w.heap.size ≠ X:=by omega
 have hwX:w.heap.size < X:=by omega
 have hXB:X < B:=by omega
 have hAB:w.heap.size + 1 < B:=by omega
 have hxB:w.heap.size < B:=by omega
 have hwB:w.heap.size <= B:=by omega
 clear hw0 hX hB
 go_enter Tryz.func57,Tryz.ntmps57
 go_wp2_with fail
 rw [<- HW.out,<- HXE.out]
 go_loopw [4] (fun i wr=>∃ k:Nat,k <= n /\ k <= 55 /\ i=.int .i64 k /\ ∃ (lo:Option Addr) (lc:Nat),Own 3 .i64 B wr (.slice lo k lc) (l.take k) /\ Quad wr X (.int .i64 op) (.int .i64 p) (.int .i64 q) (.slice lo k lc) /\ Quad wr (w.heap.size + 1) (.int .i64 0) (.int .i64 0) (.int .i64 0) (.slice none 0 0) /\
     Box4 wr w.heap.size op p q ao n cap /\ B <= wr.heap.size /\ Below w.heap.size w wr) (fun i _=>55 - (intOf i).toNat)
 case atStart=>exact ⟨0,qXf _,qXf _,rfl,none,0,by simpa using Own.nil _ _ _ _,HX0.out,HA0.out,HB0.out,hB0.out,hBl0.out⟩
 case round =>
  obtain ⟨k,hkn,hk55,rfl,lo,lc,hown',hx',ha',hb',hBr,hBl⟩:=hrel;have hown:=hid hown';have HX:=hid hx';have HA:=hid ha';have HB4:=hid hb';obtain ⟨c0,c1,c2,c3⟩:=hb';obtain ⟨x0,x1,x2,x3,f0,f1,f2,f3⟩:=hx';obtain ⟨a0,a1,a2,a3,g0,g1,g2,g3⟩:=ha';clear hown';by_cases hk:k < n /\ k < 55
  ·obtain ⟨hk,hk5⟩:=hk
   obtain ⟨b,off,rfl,hc⟩:=(Hr.out.below hBl).at (by omega)
   have hck:=hc k hk;have hkl:k < l.length:=by rw [Hx.out];exact hk
   obtain ⟨x,hxk⟩:∃ x,x=l.getD k 0:=⟨_,rfl⟩
   have hs:=qA3 hkl;rw [<- hxk] at hck hs;have hlb:=qXc wr _ hck;have HWX:Hid ((Lit.int .i64 x).wf=true):=hid (by rw [hxk];exact Hr.out.wf _ (Hr.out.mem hk));have Htk0:(l.take k).length=k:=by simp;omega
   obtain ⟨ys,hys⟩:∃ ys,ys=l.take k:=⟨_,rfl⟩
   rw [<- hys] at hown Htk0 hs;have Htk:Hid (ys.length=k):=hid Htk0;have Hs:=hid hs;clear Htk0 hys;have hXr:=HX.out.lt;have hAr:=HA.out.lt;have hxr:=HB4.out.lt;clear hc hxk hs;go_wp2_with fail;refine qD 8 (by kernel_rfl) [Is ?vA0,Is (.slice lo k lc),Is ?vA2,Is (.slice (some ⟨b,off,none⟩) n cap),Is (.int .i64 k),Is ?vA5,Is (.int .i64 x),jM .i64 [x]] [0,1,2,3,4,5,6,7] rfl (by kernel_rfl) rfl (by kernel_rfl) ?hopA ?hstA ?hendA
   case hopA =>
    refine ⟨rq (Is ?vA0) none [] [(3,.pointer (some ⟨X,0,none⟩))] ⟨⟨by kernel_rfl,rfl⟩,trivial⟩ ?_,?_⟩
    ·intro a w1 hC e3
     refine Or.inl ⟨_,?_,rfl⟩;go_simp
     first | (go_bits;rfl) | rfl | (rw [if_pos (by omega)])
    refine ⟨rq (Is (.slice lo k lc)) none [(some 23,Is ?vA0)] [] trivial ?_,?_⟩
    ·intro a w1 hC (h0:a.tmps.getD 23 undef=_)
     refine Or.inl ⟨.slice lo k lc,?_,rfl⟩;have hcw0:=(HX.out.below hC).c3;go_simp
    refine ⟨rq (Is ?vA2) none [] [(1,.pointer (some ⟨w.heap.size,0,none⟩))] ⟨⟨by kernel_rfl,rfl⟩,trivial⟩ ?_,?_⟩
    ·intro a w1 hC e1
     refine Or.inl ⟨_,?_,rfl⟩;go_simp
     first | (go_bits;rfl) | rfl | (rw [if_pos (by omega)])
    refine ⟨rq (Is (.slice (some ⟨b,off,none⟩) n cap)) none [(some 25,Is ?vA2)] [] trivial ?_,?_⟩
    ·intro a w1 hC (h2:a.tmps.getD 25 undef=_)
     refine Or.inl ⟨.slice (some ⟨b,off,none⟩) n cap,?_,rfl⟩;have hcw0:=(HB4.out.below hC).c3;go_simp
    refine ⟨rq (Is (.int .i64 k)) none [] [(4,.int .i64 k)] ⟨⟨by kernel_rfl,rfl⟩,trivial⟩ ?_,?_⟩
    ·intro a w1 hC e4
     refine Or.inl ⟨.int .i64 k,?_,rfl⟩;go_simp
    refine ⟨rq (Is ?vA5) none [(some 26,Is (.slice (some ⟨b,off,none⟩) n cap)),(some 27,Is (.int .i64 k))] [] trivial ?_,?_⟩
    ·intro a w1 hC (h3:a.tmps.getD 26 undef=_) (h4:a.tmps.getD 27 undef=_)
     refine Or.inl ⟨_,?_,rfl⟩;go_simp
     first | (go_bits;rfl) | rfl | (rw [if_pos (by omega)])
    refine ⟨rq (Is (.int .i64 x)) none [(some 28,Is ?vA5)] [] trivial ?_,?_⟩
    ·intro a w1 hC (h5:a.tmps.getD 28 undef=_)
     refine Or.inl ⟨.int .i64 x,?_,rfl⟩;have hcw0:=(hC.cell hlb).trans hck;go_simp
    refine ⟨rq (jM .i64 [x]) none [(some 29,Is (.int .i64 x))] [] trivial ?_,?_⟩
    ·intro a w1 hC (h6:a.tmps.getD 29 undef=_)
     refine Or.inr (Or.inr ⟨.slice (some ⟨w1.heap.size,0,none⟩) 1 1,w1.alloc (.cells #[.int .i64 x] 3),?_,⟨_,_,rfl,Rd.built _ _ _ _ HWX.out⟩,Bl.alloc (Bl.refl _) _⟩);rw [qXn] at h6;go_simp
    exact trivial
   case hstA=>exact ⟨qB.is _,qB.is _,qB.is _,qB.is _,qB.is _,qB.is _,qB.is _,qB.rd _ _,trivial⟩
   case hendA =>
    intro w1 hC;rintro _ rfl;rintro _ rfl;rintro _ rfl;rintro _ rfl;rintro _ rfl;rintro _ rfl;rintro _ rfl;intro x7 h7;obtain ⟨aoq,capq,rfl,hrq⟩:=h7;simp only [xV,Act.put,qXj,qXp,qXo,qXm,qXv];have hown1:Own 3 .i64 B w1 (.slice lo k lc) ys:=Own.below hown.out hC (qW8 _);have HX1:=hid (HX.out.below hC);have HA1:=hid (HA.out.below hC);have HB1:=hid (HB4.out.below hC);have hBl1:=hid (hBl.trans (hC.mono hBl.size));have hB1:B <= w1.heap.size:=qXk hBr hC.size;have hx3:=HX1.out.c3;have hf3:=HX1.out.f3;clear hC
    go_wp2_with (at_builtin;refine qA rfl (.tmp 24) (.tmp 30) 24 rfl 3 .i64 B 8 Tryz.underlying24 qE5 _ _ rfl hown1 aoq _ capq _ rfl hrq (by have:=Htk.out;simp;omega) (by have:=Htk.out;simp;omega) hB1 ?_;intro v2 w2 h3 h4 _;obtain ⟨lo2,lc2,rfl,_⟩:=h3.rd;have hown2:=hid h3;have HX2:=hid (HX1.out.keep h4 hXB);have HA2:=hid (HA1.out.keep h4 hAB);have HB2:=hid (HB1.out.keep h4 hxB);have hBl2:=hid (hBl1.out.trans (h4.mono hwB));have hB2:B <= w2.heap.size:=qXk hB1 h4.size;have c32:=HX2.out.c3;have f32:=HX2.out.f3;have hl2:=HX2.out.lt;clear h3 h4)
    have hll:(ys ++ [x]).length=k + 1:=by simp [Htk.out]
    have HX3:=hid (HX2.out.set3 (.slice lo2 (ys ++ [x]).length lc2));have HA3:=hid (HA2.out.other hAX 3 (.slice lo2 (ys ++ [x]).length lc2));have HB3:=hid (HB2.out.mv4 (Mv.set X 3 w2 (.slice lo2 (ys ++ [x]).length lc2)) hxX);have Hown3:=hid (hown2.out.mv (Mv.set X 3 w2 (.slice lo2 (ys ++ [x]).length lc2)) hXB);have hBl3:=hid (hBl2.out.trans ((Mv.set X 3 w2 (.slice lo2 (ys ++ [x]).length lc2)).below (Nat.le_of_lt hwX) (qXk hwB hB2)));rw [hll] at HX3 HA3 HB3 Hown3 hBl3;rw [<- Hs.out] at Hown3;go_roundw
    case rel =>
     refine ⟨k + 1,by omega,by omega,by go_num,lo2,lc2,?_⟩;simp only [Htk.out];exact ⟨Hown3.out,HX3.out,HA3.out,HB3.out,by simpa using hB2,hBl3.out⟩
    case measure=>simp [intOf];omega
  ·have Htk:Hid (l.take 55=l.take k):=hid (by
      rcases (show k=55 ∨ (k <= 55 /\ k=n) by omega) with e | ⟨e,e'⟩
      ·rw [e]
      ·rw [qW9 (by rw [Hx.out];omega),qW9 (by rw [Hx.out];omega)])
   obtain ⟨wf,hwf,⟨q0,q1,q2,q3,_,_,_,_⟩,hbf,hof⟩:=qQa (w:=w) HA.out (Nat.le_succ _) hBl (.int .i64 op) (.int .i64 p) (.int .i64 q) (.slice lo k lc);have Hof:=hid (hof 3 .i64 _ _ _ hAB hown.out);have Q:=hid (And.intro (And.intro q0 q1) (And.intro q2 q3));have HWF:=hid hwf;have HBF:=hid hbf;clear hof hbf hwf q0 q1 q2 q3;have hcc:k=n ∨ (k < n /\ k=55):=by omega
   have hAr:=HA.out.lt;clear hk;rcases hcc with rfl | ⟨hk,rfl⟩
   all_goals
    go_wp2_with fail
    rw [HWF.out]
    obtain ⟨⟨q0,q1⟩,q2,q3⟩:=Q.out
    first
     | refine bodyPost_ret (v:=iv op p q lo k lc) (by simp [results,Tryz.results57,go_sem,q0,q1,q2,q3]) rfl ⟨_,_,_,rfl,?_,HBF.out⟩
     | refine bodyPost_ret (v:=iv op p q lo 55 lc) (by simp [results,Tryz.results57,go_sem,q0,q1,q2,q3]) rfl ⟨_,_,_,rfl,?_,HBF.out⟩
    first
     | exact Hof.out.lift hwB
     | (rw [Htk.out];exact Hof.out.lift hwB)
open Go.RowKit
theorem qH2:(Tryz.prog.info? 51).map (fun i=>(i.zero,i.size,i.bytes))=some (some (.agg #[.int .i64 0,.int .i64 0,.int .i64 0,.slice none 0 0]),4,48):=by kernel_rfl
structure IP where
 op:Int
 a:Int
 b:Int
 lo:Option Addr
 ln:Nat
 lc:Nat
 l:List Int
def IP.cells (p:IP):List Value:=[.int .i64 p.op,.int .i64 p.a,.int .i64 p.b,.slice p.lo p.ln p.lc]
def IP.ins (p:IP):Ins:=⟨p.op,p.a,p.b,p.l⟩
def okI (I:Ins):Prop:=-9223372036854775808 <= I.a /\ I.a <= 9223372036854775807
instance:Inhabited Ins:=⟨⟨0,0,0,[]⟩⟩
instance:Inhabited IP:=⟨⟨0,0,0,none,0,0,[]⟩⟩
structure RdP (w:World) (C:Addr -> Prop) (ao:Option Addr) (n cap:Nat) (is:List Ins):Prop where
 len:is.length=n
 le:n <= cap
 max:cap <= maxLen
 cell:∀ i,i < n -> ∃ b off lo ln lc,ao=some ⟨b,off,none⟩ /\ w.cell? ⟨b,off + i * 4,none⟩=some (.int .i64 (is.getD i default).op) /\ w.cell? ⟨b,off + i * 4 + 1,none⟩=some (.int .i64 (is.getD i default).a) /\
  w.cell? ⟨b,off + i * 4 + 2,none⟩=some (.int .i64 (is.getD i default).b) /\ w.cell? ⟨b,off + i * 4 + 3,none⟩=some (.slice lo ln lc) /\ Rd .i64 w lo ln lc (is.getD i default).l /\ ∀ ad,lo=some ad -> C ad
 ok:∀ i,i < n -> okI (is.getD i default)
theorem RdP.below {w w':World} {C:Addr -> Prop} {ao:Option Addr} {n cap:Nat} {is:List Ins} (h:RdP w C ao n cap is) (hb:Below w.heap.size w w'):RdP w' C ao n cap is:=by
 refine ⟨h.len,h.le,h.max,fun i hi=>?_,h.ok⟩;obtain ⟨b,off,lo,ln,lc,e,c0,c1,c2,c3,hr,hC⟩:=h.cell i hi;have hlt:=qXc w _ c0;exact ⟨b,off,lo,ln,lc,e,(hb.cell (p:=⟨b,off + i * 4,none⟩) hlt).trans c0,(hb.cell (p:=⟨b,off + i * 4 + 1,none⟩) hlt).trans c1,(hb.cell (p:=⟨b,off + i * 4 + 2,none⟩) hlt).trans c2,(hb.cell (p:=⟨b,off + i * 4 + 3,none⟩) hlt).trans c3,hr.below hb,hC⟩
def qB7 (B:Nat) (w:World) (v:Value) (is:List Ins):Prop :=
 ∃ ps:List IP,ps.map IP.ins=is /\ w.ownsRow B 51 4 v ps.length (ps.flatMap IP.cells) /\ ∀ p ∈ ps,Rd .i64 w p.lo p.ln p.lc p.l /\ ∀ ad,p.lo=some ad -> ad.block < w.heap.size /\ v.ownBlock ≠ some ad.block /\ B <= ad.block
theorem qB7.nil (B:Nat) (w:World):qB7 B w (.slice none 0 0) []:=⟨[],rfl,World.ownsRow_nil w B _ 4,fun _ h=>by cases h⟩
theorem qK3 (ad:Addr) (i:Nat):(ad.add i).block=ad.block:=by
 unfold Addr.add;split <;> rfl
theorem Rd.grown {k:IntKind} {w w':World} {ao:Option Addr} {n cap:Nat} {xs:List Int} {row:Option Nat} (h:Rd k w ao n cap xs) (hg:w.grownBy w' row) (hne:∀ ad,ao=some ad -> row ≠ some ad.block):Rd k w' ao n cap xs :=
 ⟨h.len,h.le,h.max,h.nil,fun ad ha i hi=>hg.cell (h.cell ad ha i hi) (fun e=>hne ad ha (by rw [<- e,qK3])),h.wf⟩
theorem qDb:∀ (ps:List IP) (i j:Nat) (hi:i < ps.length),j < 4 -> (ps.flatMap IP.cells)[i * 4 + j]?=(ps[i]'hi).cells[j]?
 | p :: r,0,j,_,hj=>by
   rw [List.flatMap_cons,List.getElem?_append_left (by simp [IP.cells];omega)];simp
 | p :: r,i + 1,j,hi,hj=>by
   rw [List.flatMap_cons,List.getElem?_append_right (by simp [IP.cells];omega)];have:=qDb r i j (by simpa using hi) hj;simp only [List.getElem_cons_succ];rw [<- this];congr 1;simp [IP.cells];omega
theorem qB7.rd {B:Nat} {w:World} {v:Value} {is:List Ins} (h:qB7 B w v is) (ho:∀ I ∈ is,okI I):∃ ao cap,v=.slice ao is.length cap /\ RdP w (fun ad=>ad.block < w.heap.size) ao is.length cap is:=by
 obtain ⟨ps,rfl,hrow,hin⟩:=h;rcases hrow.2 with ⟨rfl,h0⟩ | ⟨g,cap,cur,rfl,hb,hg,hle,hmax,hsz,htake⟩
 ·have hp:ps=[]:=List.eq_nil_of_length_eq_zero h0
  subst hp;exact ⟨none,0,rfl,rfl,qW8 _,qXf _,fun i hi=>by simp at hi,fun i hi=>by simp at hi⟩
 ·refine ⟨some ⟨g,0,none⟩,cap,by simp,by simp,by simpa using hle,hmax,fun i hi=>?_,fun i hi=>?_⟩
  ·have hi':i < ps.length:=by simpa using hi
   have hgd:(ps.map IP.ins).getD i default=(ps[i]).ins:=by simp [List.getD,hi']
   obtain ⟨hr,hC⟩:=hin ps[i] (List.getElem_mem hi');have hc:=fun j v=>hrow.cells (g:=g) rfl (i * 4 + j) v
   simp only [Addr.add_lit,Nat.zero_add] at hc;refine ⟨g,0,(ps[i]).lo,(ps[i]).ln,(ps[i]).lc,rfl,?_,?_,?_,?_,?_,fun ad ha=>(hC ad ha).1⟩
   ·rw [hgd,Nat.zero_add]
    exact hc 0 _ (by rw [qDb ps i 0 hi' (by decide)];rfl)
   ·rw [hgd,Nat.zero_add]
    exact hc 1 _ (by rw [qDb ps i 1 hi' (by decide)];rfl)
   ·rw [hgd,Nat.zero_add]
    exact hc 2 _ (by rw [qDb ps i 2 hi' (by decide)];rfl)
   ·rw [Nat.zero_add]
    exact hc 3 _ (by rw [qDb ps i 3 hi' (by decide)];rfl)
   ·rw [hgd]
    exact hr
  ·refine ho _ ?_
   have hi':i < (ps.map IP.ins).length:=hi;simp only [List.getD,qW6 hi',Option.getD_some];exact List.getElem_mem hi'
theorem qB7.step {B H:Nat} {w w':World} {v:Value} {is:List Ins} {g cap:Nat} {ps:List IP} (hps:ps.map IP.ins=is) (hin:∀ p ∈ ps,Rd .i64 w p.lo p.ln p.lc p.l /\ ∀ ad,p.lo=some ad -> ad.block < w.heap.size /\ v.ownBlock ≠ some ad.block /\ B <= ad.block)
    (p:IP) (hp:Rd .i64 w p.lo p.ln p.lc p.l) (hpb:∀ ad,p.lo=some ad -> ad.block < w.heap.size /\ v.ownBlock ≠ some ad.block /\ B <= ad.block)
    (hrow':w'.ownsRow B 51 4 (.slice (some ⟨g,0,none⟩) (ps.length + 1) cap) (ps.length + 1) (ps.flatMap IP.cells ++ p.cells)) (hgr:w.grownBy w' v.ownBlock) (hg:v.ownBlock=some g ∨ g=H) (hH:w.heap.size=H) :
    qB7 B w' (.slice (some ⟨g,0,none⟩) (ps.length + 1) cap) (is ++ [p.ins]):=by
 subst hps
 refine ⟨ps ++ [p],by simp,by simpa using hrow',fun x hx=>?_⟩
 have hx':Rd .i64 w x.lo x.ln x.lc x.l /\ ∀ ad,x.lo=some ad -> ad.block < w.heap.size /\ v.ownBlock ≠ some ad.block /\ B <= ad.block:=by
  rcases List.mem_append.1 hx with hx | hx
  ·exact hin x hx
  ·simp at hx
   subst hx;exact ⟨hp,hpb⟩
 refine ⟨hx'.1.grown hgr (fun ad ha=>(hx'.2 ad ha).2.1),fun ad ha=>?_⟩
 obtain ⟨h1,h2,h3⟩:=hx'.2 ad ha
 refine ⟨qXr h1 hgr.size,fun e=>?_,h3⟩
 have eg:g=ad.block:=by simpa [Value.ownBlock] using e
 rcases hg with hg | hg
 ·exact h2 (by rw [hg,eg])
 ·omega
open Go.RowKit
theorem qB7.below {B K:Nat} {w w':World} {v:Value} {is:List Ins} (h:qB7 B w v is) (hb:Below K w w') (hK:w.heap.size <= K):qB7 B w' v is:=by
 obtain ⟨ps,e,hrow,hin⟩:=h;refine ⟨ps,e,hrow.kept (row:=none) ⟨hb.os,hb.tape,hb.output,hb.size,fun k hk _=>hb.block k (by omega)⟩ ?_,fun p hp=>?_⟩
 ·cases hv:v.ownBlock <;> simp
 ·obtain ⟨hr,hC⟩:=hin p hp
  exact ⟨hr.below (hb.mono hK),fun ad ha=>⟨qXr (hC ad ha).1 hb.size,(hC ad ha).2⟩⟩
theorem qB7.lt {B:Nat} {w:World} {v:Value} {is:List Ins} (h:qB7 B w v is):∀ b,v.ownBlock=some b -> B <= b /\ b < w.heap.size:=by
 obtain ⟨ps,_,hrow,_⟩:=h;exact hrow.lt
def qOr (I:Ins):Ins:=⟨I.op,I.a,I.b,I.l.take 55⟩
theorem qFc {is:List Ins} {k:Nat} (h:k < is.length):is.take (k + 1)=is.take k ++ [is.getD k default]:=by
 rw [List.take_succ_eq_append_getElem h];simp [List.getD,h]
theorem jF {p:Prop} (h:Hid p):p:=h.out
theorem xB {K:Nat} {w w1 w1' w2:World} {r:Option Nat} (h:Below K w w1) (h':Below w1.heap.size w1 w1') (hg:w1'.grownBy w2 r) (hr:∀ b,r=some b -> K <= b) (hK:K <= w1.heap.size):Below K w w2:=by
 refine h.trans ((h'.mono hK).trans ⟨hg.os,hg.tape,hg.output,hg.size,fun k hk=>hg.block k (qXr hk (qXk hK h'.size)) fun e=>?_⟩);have:=hr k e.symm;omega
open Go.RowKit
theorem qJf:∀ (k f:Nat) (u:Int),u < 128 ^ (k + 1) -> (qZ f u).length <= k + 1
 | k,f,u,h=>by
   by_cases hc:128 <= u
   ·cases f with
    | zero=>simp [qZ]
    | succ f =>
      cases k with
      | zero=>omega
      | succ k =>
        rw [vK hc]
        have hk:u / 128 < 128 ^ (k + 1):=by
         rw [Int.pow_succ] at h;omega
        have:=qJf k f (u / 128) hk;simpa using this
   ·rw [xE hc];simp
theorem qJg:∀ (k f:Nat) (u:Int),-(64 * 128 ^ k) <= u -> u < 64 * 128 ^ k -> (yH f u).length <= k + 1
 | k,f,u,h,h'=>by
   by_cases hc:u < -64 ∨ 64 <= u
   ·cases f with
    | zero=>simp [yH]
    | succ f =>
      cases k with
      | zero=>omega
      | succ k =>
        rw [vM hc];rw [Int.pow_succ] at h h';have:=qJg k f (u / 128) (by omega) (by omega);simpa using this
   ·rw [xF hc];simp
theorem qFd:∀ (ys rest:List Int) (m:Nat),yD ys -> ys.length <= m -> Stop (ys ++ rest) m (ys.length - 1)
 | [x],rest,m,h,hm=>⟨by simp,by simp at hm ⊢;omega,fun i hi=>by simp at hi,by simpa [List.getD] using h.2⟩
 | x :: y :: r,rest,m,h,hm=>by
   have ih:=qFd (y :: r) rest (m - 1) h.2.2 (by simp at hm ⊢;omega);refine ⟨by simp;omega,by simp at hm ⊢;omega,fun i hi=>?_,?_⟩
   ·cases i with
    | zero=>simpa [List.getD] using h.1
    | succ i =>
      have:=ih.more i (by simp at hi ⊢;omega);simpa [List.getD] using this
   ·have:=ih.last
    simpa [List.getD] using this
theorem qJh (u:Int) (rest:List Int) (h0:0 <= u) (h1:u < 4294967296):decU 32 (qZ 9 u ++ rest)=(u,(qZ 9 u).length,0):=by
 have hf:=qTu u h0 (by omega);have hl:=qJf 4 9 u (by rw [show (128:Int) ^ (4 + 1)=34359738368 from by decide];omega);have e5:(((32:Int) + 6) / 7).toNat=5:=by decide
 have hs:=qFd (qZ 9 u) rest (((32:Int) + 6) / 7).toNat (qEc 9 u h0 hf) (by rw [e5];omega);have hne:(qZ 9 u).length ≠ 0:=by have:=qBz 9 u;simpa using this
 have e1:(qZ 9 u).length - 1 + 1=(qZ 9 u).length:=by omega
 have e2:(qZ 9 u ++ rest).take ((qZ 9 u).length - 1 + 1)=qZ 9 u:=by rw [e1];simp
 rw [qE7 hs ⟨by rw [e2];exact qJr 9 u h0 hf,by rw [e2,qCn 9 u h0 hf];rw [show (2:Int) ^ (32:Int).toNat=4294967296 from by decide];exact h1⟩];rw [e2,qCn 9 u h0 hf,e1]
theorem qQb (bits u:Int) (rest:List Int) (hb:(bits=32 /\ -2147483648 <= u /\ u <= 2147483647) ∨ (bits=64 /\ -9223372036854775808 <= u /\ u <= 9223372036854775807)):decS bits (yH 9 u ++ rest)=(u,(yH 9 u).length,0):=by
 have hu:-9223372036854775808 <= u /\ u <= 9223372036854775807:=by omega
 have hf:=qN7 u hu.1 hu.2
 have hl:(yH 9 u).length <= ((bits + 6) / 7).toNat:=by
  rcases hb with ⟨rfl,h0,h1⟩ | ⟨rfl,h0,h1⟩
  ·have:=qJg 4 9 u (by rw [show (128:Int) ^ 4=268435456 from by decide];omega) (by rw [show (128:Int) ^ 4=268435456 from by decide];omega)
   have e:(((32:Int) + 6) / 7).toNat=5:=by decide
   omega
  ·have:=qFm 9 u
   have e:(((64:Int) + 6) / 7).toNat=10:=by decide
   omega
 have hs:=qFd (yH 9 u) rest ((bits + 6) / 7).toNat (qB0 9 u hf) hl;have hne:(yH 9 u).length ≠ 0:=by have:=qIp 9 u;simpa using this
 have e1:(yH 9 u).length - 1 + 1=(yH 9 u).length:=by omega
 have e2:(yH 9 u ++ rest).take ((yH 9 u).length - 1 + 1)=yH 9 u:=by rw [e1];simp
 have hg:qB1 (yH 9 u ++ rest) bits ((yH 9 u).length - 1):=by
  unfold qB1;rw [e2,qCo 9 u hf];refine ⟨qJt 9 u hf,?_⟩;rcases hb with ⟨rfl,h0,h1⟩ | ⟨rfl,h0,h1⟩
  ·rw [show (2:Int) ^ ((32:Int) - 1).toNat=2147483648 from by decide];omega
  ·rw [show (2:Int) ^ ((64:Int) - 1).toNat=9223372036854775808 from by decide];omega
 rw [qFa hs hg,e2,qCo 9 u hf,e1]
theorem uC {xs ys rest:List Int} {i:Nat} (h:xs.drop i=ys ++ rest):xs.drop (i + ys.length)=rest:=by
 rw [<- List.drop_drop,h,List.drop_left]
theorem qNh {xs rest:List Int} {i:Nat} {u:Int} (h:xs.drop i=qZ 9 u ++ rest) (h0:0 <= u) (h1:u < 4294967296):rU xs ⟨i,0⟩=(u,⟨i + (qZ 9 u).length,0⟩):=by
 unfold rU;rw [if_pos rfl,h,qJh u rest h0 h1]
theorem qRr {xs rest:List Int} {i:Nat} {bits u:Int} (h:xs.drop i=yH 9 u ++ rest) (hb:(bits=32 /\ -2147483648 <= u /\ u <= 2147483647) ∨ (bits=64 /\ -9223372036854775808 <= u /\ u <= 9223372036854775807)):rS bits xs ⟨i,0⟩=(u,⟨i + (yH 9 u).length,0⟩):=by
 unfold rS;rw [if_pos rfl,h,qQb bits u rest hb]
theorem qCk {xs rest:List Int} {i:Nat} {x:Int} (h:xs.drop i=x :: rest):vO xs ⟨i,0⟩=(x,⟨i + 1,0⟩):=by
 have hl:i < xs.length:=by
  have:=congrArg List.length h;simp at this;omega
 have hx:xs.getD i 0=x:=by
  rw [List.drop_eq_getElem_cons hl] at h;simp only [List.cons.injEq] at h;simp [List.getD,hl,h.1]
 unfold vO;rw [if_pos rfl,if_neg (by simp only;omega),hx]
theorem qGq (s:RS):qD4 true s=s:=by unfold qD4;rw [if_neg (fun h=>by cases h.1)]
theorem qGr {f:Int} {xs rest:List Int} {i:Nat} {u:Int} (h:xs.drop i=qZ 9 u ++ rest) (h0:0 <= u) (h1:u < 4294967296) (hm:q9 f u=true):rA f xs ⟨i,0⟩=(u,⟨i + (qZ 9 u).length,0⟩):=by
 unfold rA;rw [qNh h h0 h1];simp only;rw [hm,qGq]
theorem qNi (xs rest:List Int):∀ (l:List Int) (i:Nat),(∀ x ∈ l,0 <= x /\ x <= 1000) -> xs.drop i=vQ l ++ rest -> rLs xs l.length ⟨i,0⟩=(l,⟨i + (vQ l).length,0⟩)
 | [],i,_,_=>by simp [rLs,vQ]
 | x :: r,i,hl,h=>by
   have hx:=hl x (by simp);have h1:xs.drop i=qZ 9 x ++ (vQ r ++ rest):=by rw [h,vQ,qXe]
   have ha:=qGr (f:=3) h1 hx.1 (by omega) (by simp [q9,hx.1,hx.2]);rw [qXg,qNc rfl ha,qNi xs rest r (i + (qZ 9 x).length) (fun y hy=>hl y (by simp [hy])) (uC h1)];simp [vQ,Nat.add_assoc]
theorem qQc (op a b:Int) (l rest:List Int) (h:uN op a b l=true) (ha:-9223372036854775808 <= a /\ a <= 9223372036854775807):rIns (uW op a b l ++ rest)=(⟨op,a,b,l⟩,⟨(uW op a b l).length,0⟩):=by
 obtain ⟨h1,h2,h3⟩:=uA h;have hb:=yB op
 obtain ⟨xs,hxs⟩:∃ xs,xs=uW op a b l ++ rest:=⟨_,rfl⟩
 have h0:xs.drop 0=op :: (zD (sh op) a b l ++ rest):=by rw [hxs];rfl
 have ho:=qCk h0;have hd:xs.drop 1=zD (sh op) a b l ++ rest:=by rw [hxs];rfl
 rw [<- hxs];have hlen:(uW op a b l).length=1 + (zD (sh op) a b l).length:=by simp [uW];omega
 rw [hlen];clear hlen;unfold rIns;rw [ho];simp only;unfold rTail;generalize hs:sh op=s at *;have e:s=0 ∨ s=1 ∨ s=2 ∨ s=3 ∨ s=4 ∨ s=5 ∨ s=6 ∨ s=7 ∨ s=8 ∨ s=9:=by omega
 have hb0:s ≠ 6 -> b=0:=fun h6=>by unfold zU at h2;rw [if_neg h6] at h2;simpa using h2
 have hl0:s ≠ 4 -> l=[]:=fun h4=>by unfold zY at h3;rw [if_neg h4] at h3;simpa using h3
 rcases e with rfl | rfl | rfl | rfl | rfl | rfl | rfl | rfl | rfl | rfl
 ·simp [q9] at h1
 ·obtain rfl:=hb0 (by decide)
  obtain rfl:=hl0 (by decide);have:a=0:=by simpa [q9] using h1
  subst this;simp [zD]
 ·obtain rfl:=hb0 (by decide)
  obtain rfl:=hl0 (by decide);have ha2:a=0 ∨ a=1 ∨ a=2:=by simpa [q9] using h1
  have ho2:=qCk (xs:=xs) (i:=1) (x:=qOq a) (rest:=rest) (by rw [hd];rfl);simp only [show ¬ (2:Int)=0 by decide,if_false,if_true];unfold qS3;rw [ho2];rcases ha2 with rfl | rfl | rfl <;> simp [qOq,qU7,qD4,zD]
 ·obtain rfl:=hb0 (by decide)
  obtain rfl:=hl0 (by decide);have hr:=qGr (f:=3) (xs:=xs) (i:=1) (rest:=rest) (by rw [hd];rfl) (by simp [q9] at h1;omega) (by simp [q9] at h1;omega) h1;simp [hr,zD]
 ·obtain rfl:=hb0 (by decide)
  have hl:l.length <= 50 /\ ∀ x ∈ l,0 <= x /\ x <= 1000:=by simpa [zY,idx] using h3
  have hd1:xs.drop 1=qZ 9 (l.length:Int) ++ (vQ l ++ (qZ 9 a ++ rest)):=by rw [hd];simp [zD]
  have hd2:=uC hd1;have hd3:=uC hd2;have hc:=qNh hd1 (by omega) (by omega);have hls:=qNi xs (qZ 9 a ++ rest) l _ hl.2 hd2;have hr:=qGr (f:=4) hd3 (by simp [q9] at h1;omega) (by simp [q9] at h1;omega) h1
  have hL:rL xs ⟨1,0⟩=(l,⟨1 + (qZ 9 (l.length:Int)).length + (vQ l).length,0⟩):=by
   unfold rL rCount;rw [hc];simp only;rw [show decide ((l.length:Int) <= 50)=true from by simp;omega,qGq];simpa using hls
  simp [hL,hr,zD];omega
 ·obtain rfl:=hb0 (by decide)
  obtain rfl:=hl0 (by decide);have hd1:xs.drop 1=qZ 9 a ++ (0 :: rest):=by rw [hd];simp [zD]
  have hr:=qGr (f:=5) hd1 (by simp [q9] at h1;omega) (by simp [q9] at h1;omega) h1;have ho2:=qCk (uC hd1);simp [hr,qKs,ho2,qD4,zD];omega
 ·obtain rfl:=hl0 (by decide)
  have hd1:xs.drop 1=qZ 9 a ++ (qZ 9 b ++ rest):=by rw [hd];simp [zD]
  have hr:=qGr (f:=6) hd1 (by simp [q9] at h1;omega) (by simp [q9] at h1;omega) h1;have hr2:=qNh (uC hd1) (by simp [zU] at h2;omega) (by simp [zU] at h2;omega);simp [hr,hr2,zD];omega
 ·obtain rfl:=hb0 (by decide)
  obtain rfl:=hl0 (by decide);have:a=0:=by simpa [q9] using h1
  subst this;have ho2:=qCk (xs:=xs) (i:=1) (x:=0) (rest:=rest) (by rw [hd];rfl);simp [qKs,ho2,qD4,zD]
 ·obtain rfl:=hb0 (by decide)
  obtain rfl:=hl0 (by decide);have hr:=qRr (xs:=xs) (i:=1) (bits:=32) (rest:=rest) (u:=a) (by rw [hd];rfl) (.inl ⟨rfl,by simp [q9] at h1;omega⟩);simp [hr,zD]
 ·obtain rfl:=hb0 (by decide)
  obtain rfl:=hl0 (by decide);have hr:=qRr (xs:=xs) (i:=1) (bits:=64) (rest:=rest) (u:=a) (by rw [hd];rfl) (.inr ⟨rfl,ha⟩);simp [hr,zD]
theorem qA5 (op a b:Int) (l rest:List Int) (h:uN op a b l=true) (ha:-9223372036854775808 <= a /\ a <= 9223372036854775807):getI (uW op a b l ++ rest)=(⟨op,a,b,l⟩,(uW op a b l).length,0):=by
 unfold getI;rw [qQc op a b l rest h ha];simp
theorem qVu {op a b op' a' b':Int} {l l':List Int} (h:uN op a b l=true) (ha:-9223372036854775808 <= a /\ a <= 9223372036854775807) (h':uN op' a' b' l'=true) (ha':-9223372036854775808 <= a' /\ a' <= 9223372036854775807)
    (he:uW op a b l=uW op' a' b' l'):op=op' /\ a=a' /\ b=b' /\ l=l':=by
 have h1:=qA5 op a b l [] h ha
 have h2:=qA5 op' a' b' l' [] h' ha'
 rw [he,h2] at h1
 have h3:=congrArg Prod.fst h1
 simp only [Ins.mk.injEq] at h3
 exact ⟨h3.1.symm,h3.2.1.symm,h3.2.2.1.symm,h3.2.2.2.symm⟩
open Go.RowKit
def zL (I:Ins):Bool:=uN I.op I.a I.b I.l
def qFe (I:Ins):List Int:=uW I.op I.a I.b I.l
def jN (js:List Ins):List Int:=js.flatMap qFe
theorem qBq (js:List Ins) (I:Ins):jN (js ++ [I])=jN js ++ qFe I:=by simp [jN]
theorem qA6:∀ js:List Ins,(∀ I ∈ js,zL I=true) -> (jN js).length <= js.length * 20001
 | [],_=>by simp [jN]
 | I :: r,h=>by
   have h1:=qA6 r (fun J hJ=>h J (by simp [hJ]));have h2:=h I (by simp);have h3:=xJ (sh I.op) I.a I.b I.l (qXk (qE6 h2) (by decide));simp [jN,qFe,uW] at h1 ⊢;omega
open Go.RowKit
theorem qNj {xs:List Int} (hb:Bs xs) {u:Int} {k:Nat} (h:decU 32 xs=(u,k,0)):xs.take k=qZ 9 u /\ k <= xs.length /\ 0 <= u /\ u < 4294967296:=by
 have e5:(((32:Int) + 6) / 7).toNat=5:=by decide
 rcases qIq xs (((32:Int) + 6) / 7).toNat with ⟨j,hs⟩ | hs | hs
 ·by_cases g:qDv xs 32 j
  ·rw [qE7 hs g] at h
   simp only [Prod.mk.injEq,and_true] at h;obtain ⟨h1,h2⟩:=h;have hlt:=hs.lt;have hm:=hs.most;rw [e5] at hm;have hl:(xs.take (j + 1)).length <= 9 + 1:=by rw [qXu];omega
   have he:=qN8 _ 9 (hs.shape hb) g.1 hl;refine ⟨by rw [<- h2,<- h1,he],by omega,by rw [<- h1];exact xW _,?_⟩;have:=g.2;rw [show (2:Int) ^ (32:Int).toNat=4294967296 from by decide] at this;rw [<- h1];exact this
  ·rw [qE8 hs g] at h;simp at h
 ·rw [qC7 hs] at h;simp at h
 ·rw [qC8 hs] at h;simp at h
theorem qNk {xs:List Int} (hb:Bs xs) {bits u:Int} {k:Nat} (hbits:bits=32 ∨ bits=64) (h:decS bits xs=(u,k,0)):xs.take k=yH 9 u /\ k <= xs.length /\ -2 ^ (bits - 1).toNat <= u /\ u < 2 ^ (bits - 1).toNat:=by
 have e5:((bits + 6) / 7).toNat <= 10:=by rcases hbits with rfl | rfl <;> decide
 rcases qIq xs ((bits + 6) / 7).toNat with ⟨j,hs⟩ | hs | hs
 ·by_cases g:qB1 xs bits j
  ·rw [qFa hs g] at h
   simp only [Prod.mk.injEq,and_true] at h;obtain ⟨h1,h2⟩:=h;have hlt:=hs.lt;have hm:=hs.most;have hl:(xs.take (j + 1)).length <= 9 + 1:=by rw [qXu];omega
   have he:=qN9 _ 9 (hs.shape hb) g.1 hl;exact ⟨by rw [<- h2,<- h1,he],by omega,by rw [<- h1];exact g.2.1,by rw [<- h1];exact g.2.2⟩
  ·rw [qFb hs g] at h;simp at h
 ·rw [qC9 hs] at h;simp at h
 ·rw [qDa hs] at h;simp at h
theorem Bs.drop {xs:List Int} (h:Bs xs) (i:Nat):Bs (xs.drop i):=fun x hx=>h x (List.mem_of_mem_drop hx)
theorem qD8 {xs ys:List Int} {i k:Nat} (h:(xs.drop i).take k=ys):xs.drop i=ys ++ xs.drop (i + k):=by
 rw [<- h,<- List.drop_drop,List.take_append_drop]
theorem qH3 {xs:List Int} (hb:Bs xs) {s:RS} {u:Int} {j:Nat} (hi:s.at' <= xs.length) (h:rU xs s=(u,⟨j,0⟩)):s.err=0 /\ xs.drop s.at'=qZ 9 u ++ xs.drop j /\ j <= xs.length /\ 0 <= u /\ u < 4294967296:=by
 unfold rU at h;by_cases h0:s.err=0
 ·rw [if_pos h0] at h
  obtain ⟨v,k,e,hd⟩:∃ v k e,decU 32 (xs.drop s.at')=(v,k,e):=⟨_,_,_,rfl⟩
  rw [hd] at h;simp only [Prod.mk.injEq,RS.mk.injEq] at h;obtain ⟨rfl,rfl,rfl⟩:=h;obtain ⟨h1,h2,h3,h4⟩:=qNj (hb.drop _) hd;exact ⟨h0,qD8 h1,by simp at h2;omega,h3,h4⟩
 ·rw [if_neg h0] at h
  simp only [Prod.mk.injEq] at h;obtain ⟨rfl,rfl⟩:=h;exact absurd rfl h0
theorem qNl {xs:List Int} (hb:Bs xs) {s:RS} {bits u:Int} {j:Nat} (hbits:bits=32 ∨ bits=64) (hi:s.at' <= xs.length) (h:rS bits xs s=(u,⟨j,0⟩)):s.err=0 /\ xs.drop s.at'=yH 9 u ++ xs.drop j /\ j <= xs.length /\ -2 ^ (bits - 1).toNat <= u /\ u < 2 ^ (bits - 1).toNat:=by
 unfold rS at h;by_cases h0:s.err=0
 ·rw [if_pos h0] at h
  obtain ⟨v,k,e,hd⟩:∃ v k e,decS bits (xs.drop s.at')=(v,k,e):=⟨_,_,_,rfl⟩
  rw [hd] at h;simp only [Prod.mk.injEq,RS.mk.injEq] at h;obtain ⟨rfl,rfl,rfl⟩:=h;obtain ⟨h1,h2,h3,h4⟩:=qNk (hb.drop _) hbits hd;exact ⟨h0,qD8 h1,by simp at h2;omega,h3,h4⟩
 ·rw [if_neg h0] at h
  simp only [Prod.mk.injEq] at h;obtain ⟨rfl,rfl⟩:=h;exact absurd rfl h0
theorem qA7 {xs:List Int} {s:RS} {v:Int} {j:Nat} (hi:s.at' <= xs.length) (h:vO xs s=(v,⟨j,0⟩)):s.err=0 /\ xs.drop s.at'=v :: xs.drop j /\ j <= xs.length /\ s.at' < j:=by
 unfold vO at h;by_cases h0:s.err=0
 ·rw [if_pos h0] at h
  by_cases h1:s.at'=xs.length
  ·rw [if_pos h1] at h;simp at h
  ·rw [if_neg h1] at h
   simp only [Prod.mk.injEq,RS.mk.injEq,and_true] at h;obtain ⟨rfl,rfl⟩:=h;have hlt:s.at' < xs.length:=by omega
   refine ⟨h0,?_,by omega,by omega⟩;rw [List.drop_eq_getElem_cons hlt];simp [List.getD,hlt]
 ·rw [if_neg h0] at h
  simp only [Prod.mk.injEq] at h;obtain ⟨rfl,rfl⟩:=h;exact absurd rfl h0
theorem yW {t:Bool} {s:RS} {j:Nat} (h:qD4 t s=⟨j,0⟩):t=true /\ s=⟨j,0⟩:=by
 unfold qD4 at h;by_cases h0:t=false /\ s.err=0
 ·rw [if_pos h0] at h;simp at h
 ·rw [if_neg h0] at h
  subst h
  cases t
  ·exact absurd ⟨rfl,rfl⟩ h0
  ·exact ⟨rfl,rfl⟩
theorem qDc {f:Int} {xs:List Int} (hb:Bs xs) {s:RS} {u:Int} {j:Nat} (hi:s.at' <= xs.length) (h:rA f xs s=(u,⟨j,0⟩)):s.err=0 /\ xs.drop s.at'=qZ 9 u ++ xs.drop j /\ j <= xs.length /\ q9 f u=true /\ 0 <= u /\ u < 4294967296:=by
 unfold rA at h;simp only [Prod.mk.injEq] at h;obtain ⟨rfl,h2⟩:=h;obtain ⟨h3,h4⟩:=yW h2;obtain ⟨g1,g2,g3,g4,g5⟩:=qH3 hb (u:=(rU xs s).1) (j:=j) hi (by rw [<- h4]);exact ⟨g1,g2,g3,h3,g4,g5⟩
theorem qJi {xs:List Int} (hb:Bs xs):∀ (m:Nat) (s:RS) (l:List Int) (j:Nat),s.at' <= xs.length -> rLs xs m s=(l,⟨j,0⟩) -> s.err=0 /\ xs.drop s.at'=vQ l ++ xs.drop j /\ j <= xs.length /\ l.length=m /\ ∀ x ∈ l,idx x=true
 | 0,s,l,j,hi,h=>by
   simp only [rLs,Prod.mk.injEq] at h;obtain ⟨rfl,rfl⟩:=h;exact ⟨rfl,rfl,hi,rfl,fun _ h=>by cases h⟩
 | m + 1,s,l,j,hi,h=>by
   by_cases h0:s.err=0
   ·obtain ⟨x,s3,hx⟩:∃ x s3,rA 3 xs s=(x,s3):=⟨_,_,rfl⟩
    rw [qNc h0 hx] at h;simp only [Prod.mk.injEq] at h;obtain ⟨rfl,h2⟩:=h;obtain ⟨i3,e3⟩:=s3;by_cases h3:e3=0
    ·subst h3
     obtain ⟨g1,g2,g3,g4,_,_⟩:=qDc hb hi hx;obtain ⟨k1,k2,k3,k4,k5⟩:=qJi hb m ⟨i3,0⟩ (rLs xs m ⟨i3,0⟩).1 j g3 (by rw [<- h2]);refine ⟨h0,?_,k3,by simp [k4],fun y hy=>?_⟩
     ·rw [g2,vQ,qXe]
      simp only at k2;rw [<- k2]
     ·rcases List.mem_cons.1 hy with rfl | hy
      ·simpa [q9,idx] using g4
      ·exact k5 y hy
    ·rw [qCj (by exact h3)] at h2
     simp only at h2
     cases h2
     exact absurd rfl h3
   ·rw [qCj h0] at h
    simp only [Prod.mk.injEq] at h;obtain ⟨rfl,rfl⟩:=h;exact absurd rfl h0
theorem qTh {xs:List Int} (hb:Bs xs) {s:RS} {l:List Int} {j:Nat} (hi:s.at' <= xs.length) (h:rL xs s=(l,⟨j,0⟩)):s.err=0 /\ xs.drop s.at'=qZ 9 l.length ++ (vQ l ++ xs.drop j) /\ j <= xs.length /\ l.length <= 50 /\ l.all idx=true:=by
 unfold rL at h
 obtain ⟨c,⟨i1,e1⟩,hc⟩:∃ c s1,rCount xs s=(c,s1):=⟨_,_,rfl⟩
 rw [hc] at h;simp only at h
 have he1:e1=0:=by
  by_cases h3:e1=0
  ·exact h3
  ·rw [qCj (by exact h3)] at h
   simp only [Prod.mk.injEq,RS.mk.injEq] at h;exact absurd h.2.2 h3
 subst he1;unfold rCount at hc;simp only [Prod.mk.injEq] at hc;obtain ⟨rfl,h2⟩:=hc;obtain ⟨h3,h4⟩:=yW h2;obtain ⟨g1,g2,g3,g4,g5⟩:=qH3 hb (u:=(rU xs s).1) (j:=i1) hi (by rw [<- h4]);obtain ⟨k1,k2,k3,k4,k5⟩:=qJi hb _ _ _ _ g3 h;have hcl:((l.length:Nat):Int)=(rU xs s).1:=by rw [k4];omega
 refine ⟨g1,?_,k3,?_,qXb.2 k5⟩
 ·rw [hcl,g2]
  simp only at k2;rw [k2]
 ·have:=of_decide_eq_true h3
  omega
theorem qVb {x:Int} (h:(x == 64 || (x == 127 || x == 126))=true):qOq (qU7 x)=x /\ q9 2 (qU7 x)=true:=by
 have:x=64 ∨ x=127 ∨ x=126:=by simpa using h
 rcases this with rfl | rfl | rfl <;> decide
theorem qA8 {I:Ins} (h1:-9223372036854775808 <= I.a) (h2:I.a <= 9223372036854775807):okI I:=⟨h1,h2⟩
theorem qNm {xs:List Int} (hb:Bs xs) {I:Ins} {k:Nat} (h:getI xs=(I,k,0)):zL I=true /\ okI I /\ xs=qFe I ++ xs.drop k /\ 1 <= k /\ k <= xs.length:=by
 unfold getI at h
 obtain ⟨J,⟨j,er⟩,hJ⟩:∃ J s,rIns xs=(J,s):=⟨_,_,rfl⟩
 rw [hJ] at h;simp only at h;by_cases her:er=0
 ·subst her
  simp only [if_pos,Prod.mk.injEq,and_true] at h;obtain ⟨rfl,rfl⟩:=h;unfold rIns at hJ
  obtain ⟨op,⟨i1,e1⟩,h1⟩:∃ op s1,vO xs ⟨0,0⟩=(op,s1):=⟨_,_,rfl⟩
  rw [h1] at hJ;simp only at hJ
  have hi1:i1 <= xs.length:=by
   unfold vO at h1;simp only [if_pos] at h1;split at h1 <;> simp only [Prod.mk.injEq,RS.mk.injEq] at h1 <;> omega
  have key:e1=0 -> zL J=true -> okI J -> J.op=op -> xs.drop i1=zD (sh op) J.a J.b J.l ++ xs.drop j -> j <= xs.length -> zL J=true /\ okI J /\ xs=qFe J ++ xs.drop j /\ 1 <= j /\ j <= xs.length:=by
   intro he k1 k2 k3 k4 k5;subst he;obtain ⟨_,g2,g3,g4⟩:=qA7 (s:=⟨0,0⟩) (qXf _) h1;simp only [qXv] at g2;have hl:=congrArg List.length k4;simp at hl;refine ⟨k1,k2,?_,by simp only at g4;omega,k5⟩;rw [qFe,uW,k3,List.cons_append,<- k4,<- g2]
  unfold rTail at hJ;have hbd:=yB op;by_cases s0:sh op=0
  ·rw [if_pos s0] at hJ
   simp only [Prod.mk.injEq] at hJ;obtain ⟨h3,_⟩:=yW hJ.2
   cases h3
  rw [if_neg s0] at hJ;by_cases s2:sh op=2
  ·rw [if_pos s2] at hJ
   simp only [Prod.mk.injEq] at hJ;obtain ⟨hJ0,hJ⟩:=hJ;unfold qS3 at hJ hJ0;simp only at hJ hJ0
   obtain ⟨v,s1,hv⟩:∃ v s1,vO xs ⟨i1,e1⟩=(v,s1):=⟨_,_,rfl⟩
   rw [hv] at hJ hJ0;simp only at hJ hJ0;subst hJ0;obtain ⟨h3,rfl⟩:=yW hJ;obtain ⟨rb,rm⟩:=qVb h3;obtain ⟨g1,g2,g3,g4⟩:=qA7 (s:=⟨i1,e1⟩) hi1 hv;refine key g1 (by simp [zL,uN,s2,rm,zU,zY]) ?_ rfl ?_ g3
   ·simp only [q9] at rm
    simp at rm;exact qA8 (by simp only;omega) (by simp only;omega)
   ·simp only [s2,zD,if_true,rb]
    exact g2
  rw [if_neg s2] at hJ;by_cases s3:sh op=3
  ·rw [if_pos s3] at hJ
   simp only [Prod.mk.injEq] at hJ;obtain ⟨hJ0,hJ⟩:=hJ
   obtain ⟨v,s1,hv⟩:∃ v s1,rA 3 xs ⟨i1,e1⟩=(v,s1):=⟨_,_,rfl⟩
   rw [hv] at hJ hJ0;simp only at hJ hJ0;subst hJ hJ0;obtain ⟨g1,g2,g3,g4,g5,g6⟩:=qDc hb (s:=⟨i1,e1⟩) hi1 hv;refine key g1 (by simp [zL,uN,s3,g4,zU,zY]) (qA8 (by simp only;omega) (by simp only;omega)) rfl ?_ g3;simp only [s3,zD];exact g2
  rw [if_neg s3] at hJ;by_cases s4:sh op=4
  ·rw [if_pos s4] at hJ
   simp only [Prod.mk.injEq] at hJ;obtain ⟨hJ0,hJ⟩:=hJ
   obtain ⟨l,⟨i2,e2⟩,hl⟩:∃ l s1,rL xs ⟨i1,e1⟩=(l,s1):=⟨_,_,rfl⟩
   rw [hl] at hJ hJ0;simp only at hJ hJ0
   obtain ⟨v,s1,hv⟩:∃ v s1,rA 4 xs ⟨i2,e2⟩=(v,s1):=⟨_,_,rfl⟩
   rw [hv] at hJ hJ0;simp only at hJ hJ0;subst hJ hJ0
   have he2:e2=0:=by
    by_cases hz:e2=0
    ·exact hz
    ·unfold rA rU qD4 at hv
     simp only [if_neg hz] at hv;simp [hz] at hv
   subst he2;obtain ⟨k1,k2,k3,k4,k5⟩:=qTh hb (s:=⟨i1,e1⟩) hi1 hl;obtain ⟨g1,g2,g3,g4,g5,g6⟩:=qDc hb (s:=⟨i2,0⟩) k3 hv;refine key k1 (by simp only [zL,uN,s4,g4,zU,zY];simp [k4] ;simpa using k5) (qA8 (by simp only;omega) (by simp only;omega)) rfl ?_ g3;simp only at k2 g2;rw [k2,g2];simp [s4,zD]
  rw [if_neg s4] at hJ;by_cases s5:sh op=5
  ·rw [if_pos s5] at hJ
   simp only [Prod.mk.injEq] at hJ;obtain ⟨hJ0,hJ⟩:=hJ
   obtain ⟨v,s1,hv⟩:∃ v s1,rA 5 xs ⟨i1,e1⟩=(v,s1):=⟨_,_,rfl⟩
   rw [hv] at hJ hJ0;simp only at hJ hJ0;subst hJ0;obtain ⟨i2,e2⟩:=s1
   obtain ⟨z,s2',hz⟩:∃ z s2,vO xs ⟨i2,e2⟩=(z,s2):=⟨_,_,rfl⟩
   unfold qKs at hJ;rw [hz] at hJ;simp only at hJ;obtain ⟨h3,rfl⟩:=yW hJ
   have he2:e2=0:=by
    by_cases hq:e2=0
    ·exact hq
    ·unfold vO at hz;rw [if_neg (by exact hq)] at hz;simp only [Prod.mk.injEq,RS.mk.injEq] at hz;exact absurd hz.2.2 hq
   subst he2;obtain ⟨g1,g2,g3,g4,g5,g6⟩:=qDc hb (s:=⟨i1,e1⟩) hi1 hv;obtain ⟨_,k2,k3,_⟩:=qA7 (s:=⟨i2,0⟩) g3 hz;have hz0:z=0:=by simpa using h3
   subst hz0;refine key g1 (by simp [zL,uN,s5,g4,zU,zY]) (qA8 (by simp only;omega) (by simp only;omega)) rfl ?_ k3;simp only at k2 g2;rw [g2,k2];simp [s5,zD]
  rw [if_neg s5] at hJ;by_cases s6:sh op=6
  ·rw [if_pos s6] at hJ
   simp only [Prod.mk.injEq] at hJ;obtain ⟨hJ0,hJ⟩:=hJ
   obtain ⟨v,⟨i2,e2⟩,hv⟩:∃ v s1,rA 6 xs ⟨i1,e1⟩=(v,s1):=⟨_,_,rfl⟩
   rw [hv] at hJ hJ0;simp only at hJ hJ0
   obtain ⟨z,s2',hz⟩:∃ z s2,rU xs ⟨i2,e2⟩=(z,s2):=⟨_,_,rfl⟩
   rw [hz] at hJ hJ0;simp only at hJ hJ0;subst hJ hJ0
   have he2:e2=0:=by
    by_cases hq:e2=0
    ·exact hq
    ·unfold rU at hz;rw [if_neg (by exact hq)] at hz;simp only [Prod.mk.injEq,RS.mk.injEq] at hz;exact absurd hz.2.2 hq
   subst he2;obtain ⟨g1,g2,g3,g4,g5,g6⟩:=qDc hb (s:=⟨i1,e1⟩) hi1 hv;obtain ⟨_,k2,k3,k4,k5⟩:=qH3 hb (s:=⟨i2,0⟩) g3 hz;refine key g1 (by simp [zL,uN,s6,g4,zU,zY];omega) (qA8 (by simp only;omega) (by simp only;omega)) rfl ?_ k3;simp only at k2 g2;rw [g2,k2];simp [s6,zD]
  rw [if_neg s6] at hJ;by_cases s7:sh op=7
  ·rw [if_pos s7] at hJ
   simp only [Prod.mk.injEq] at hJ;obtain ⟨rfl,hJ⟩:=hJ
   obtain ⟨z,s2',hz⟩:∃ z s2,vO xs ⟨i1,e1⟩=(z,s2):=⟨_,_,rfl⟩
   unfold qKs at hJ;rw [hz] at hJ;simp only at hJ;obtain ⟨h3,rfl⟩:=yW hJ;obtain ⟨g1,k2,k3,_⟩:=qA7 (s:=⟨i1,e1⟩) hi1 hz;have hz0:z=0:=by simpa using h3
   subst hz0;refine key g1 (by simp [zL,uN,s7,q9,zU,zY]) (qA8 (by simp only;omega) (by simp only;omega)) rfl ?_ k3;simp only at k2;rw [k2];simp [s7,zD]
  rw [if_neg s7] at hJ;by_cases s8:sh op=8
  ·rw [if_pos s8] at hJ
   simp only [Prod.mk.injEq] at hJ;obtain ⟨hJ0,hJ⟩:=hJ
   obtain ⟨v,s1,hv⟩:∃ v s1,rS 32 xs ⟨i1,e1⟩=(v,s1):=⟨_,_,rfl⟩
   rw [hv] at hJ hJ0;simp only at hJ hJ0;subst hJ hJ0;obtain ⟨g1,g2,g3,g4,g5⟩:=qNl hb (s:=⟨i1,e1⟩) (.inl rfl) hi1 hv;rw [show (2:Int) ^ ((32:Int) - 1).toNat=2147483648 from by decide] at g4 g5;refine key g1 (by simp [zL,uN,s8,q9,zU,zY];omega) (qA8 (by simp only;omega) (by simp only;omega)) rfl ?_ g3;simp only [s8,zD];exact g2
  rw [if_neg s8] at hJ;by_cases s9:sh op=9
  ·rw [if_pos s9] at hJ
   simp only [Prod.mk.injEq] at hJ;obtain ⟨hJ0,hJ⟩:=hJ
   obtain ⟨v,s1,hv⟩:∃ v s1,rS 64 xs ⟨i1,e1⟩=(v,s1):=⟨_,_,rfl⟩
   rw [hv] at hJ hJ0;simp only at hJ hJ0;subst hJ hJ0;obtain ⟨g1,g2,g3,g4,g5⟩:=qNl hb (s:=⟨i1,e1⟩) (.inr rfl) hi1 hv;rw [show (2:Int) ^ ((64:Int) - 1).toNat=9223372036854775808 from by decide] at g4 g5;refine key g1 (by simp [zL,uN,s9,q9,zU,zY]) (qA8 (by simp only;omega) (by simp only;omega)) rfl ?_ g3;simp only [s9,zD];exact g2
  rw [if_neg s9] at hJ;have s1:sh op=1:=by omega
  simp only [Prod.mk.injEq,RS.mk.injEq] at hJ;obtain ⟨rfl,rfl,rfl⟩:=hJ;refine key rfl (by simp [zL,uN,s1,q9,zU,zY]) (qA8 (by simp only;omega) (by simp only;omega)) rfl ?_ hi1;simp [s1,zD]
 ·rw [if_neg her] at h
  simp only [Prod.mk.injEq] at h;exact absurd h.2.2 her
end Go.Proofs.YtbkofpljchkkaaaGreat
