/- Words: KB. -/
import Derived.Test.YtbkofpljchkkaaaGreatKA
import Derived.Test.YtbkofpljchkkaaaGreatProg
set_option maxHeartbeats 800000
namespace Go.Proofs.YtbkofpljchkkaaaGreat
open Go.RowKit
def qZ:Nat -> Int -> List Int
 | 0,u=>[u]
 | f + 1,u=>if 128 <= u then (u % 128 + 128) :: qZ f (u / 128) else [u]
def uH:Nat -> Int -> Prop
 | 0,u=>u < 128
 | f + 1,u=>u < 128 ∨ uH f (u / 128)
theorem vK {f:Nat} {u:Int} (h:128 <= u):qZ (f + 1) u=(u % 128 + 128) :: qZ f (u / 128):=by simp [qZ,h]
theorem xE {f:Nat} {u:Int} (h:¬ 128 <= u):qZ f u=[u]:=by cases f <;> simp [qZ,h]
theorem qE (f:Nat) (u:Int):(qZ f u).length <= f + 1:=by
 induction f generalizing u with
 | zero=>simp [qZ]
 | succ f ih=>unfold qZ;split <;> simp [ih]
theorem qTu (u:Int) (h0:0 <= u) (h:u <= 18446744073709551615):uH 9 u:=by
 simp only [uH];omega
def yH:Nat -> Int -> List Int
 | 0,u=>[u % 128]
 | f + 1,u=>if u < -64 ∨ 64 <= u then (u % 128 + 128) :: yH f (u / 128) else [u % 128]
def vL:Nat -> Int -> Prop
 | 0,u=>-64 <= u /\ u < 64
 | f + 1,u=>(-64 <= u /\ u < 64) ∨ vL f (u / 128)
theorem vM {f:Nat} {u:Int} (h:u < -64 ∨ 64 <= u):yH (f + 1) u=(u % 128 + 128) :: yH f (u / 128):=by simp [yH,h]
theorem xF {f:Nat} {u:Int} (h:¬ (u < -64 ∨ 64 <= u)):yH f u=[u % 128]:=by cases f <;> simp [yH,h]
theorem qFm (f:Nat) (u:Int):(yH f u).length <= f + 1:=by
 induction f generalizing u with
 | zero=>simp [yH]
 | succ f ih=>unfold yH;split <;> simp [ih]
theorem qN7 (u:Int) (h0:-9223372036854775808 <= u) (h:u <= 9223372036854775807):vL 9 u:=by
 simp only [vL];omega
def val:List Int -> Int
 | []=>0
 | x :: r=>x % 128 + 128 * val r
def ext (x:Int):Int:=if x % 128 < 64 then x % 128 else x % 128 - 128
def qAs:List Int -> Int
 | []=>0
 | [x]=>ext x
 | x :: y :: r=>x % 128 + 128 * qAs (y :: r)
def yD:List Int -> Prop
 | []=>False
 | [x]=>0 <= x /\ x < 128
 | x :: y :: r=>128 <= x /\ x <= 255 /\ yD (y :: r)
def qLy:List Int -> Prop
 | []=>False
 | [_]=>True
 | [_,y]=>y ≠ 0
 | _ :: y :: z :: r=>qLy (y :: z :: r)
def qLz:List Int -> Prop
 | []=>False
 | [_]=>True
 | [x,y]=>¬ (y=0 /\ x % 128 < 64) /\ ¬ (y=127 /\ 64 <= x % 128)
 | _ :: y :: z :: r=>qLz (y :: z :: r)
theorem xW:∀ ys:List Int,0 <= val ys
 | []=>Int.le_refl _
 | x :: r=>by have:=xW r;simp only [val];omega
theorem qJq:∀ (x y:Int) (r:List Int),yD (x :: y :: r) -> qLy (x :: y :: r) -> 1 <= val (y :: r)
 | x,y,[],h,c=>by simp only [yD,qLy,val] at *;omega
 | x,y,z :: r,h,c=>by
   have:=qJq y z r h.2.2 c;simp only [val] at this ⊢;omega
theorem qN8:∀ (ys:List Int) (f:Nat),yD ys -> qLy ys -> ys.length <= f + 1 -> qZ f (val ys)=ys
 | [x],f,h,_,_=>by
   simp only [yD,val] at *;rw [show x % 128 + 128 * 0=x from by omega,xE (by omega)]
 | x :: y :: r,f,h,c,hl=>by
   have h1:=qJq x y r h c;have hc:qLy (y :: r):=by cases r <;> simp_all [qLy]
   obtain ⟨f',rfl⟩:∃ f',f=f' + 1:=⟨f - 1,by simp at hl;omega⟩
   have ih:=qN8 (y :: r) f' h.2.2 hc (by simpa using hl);have hx:=h.1;have hx':=h.2.1;rw [show val (x :: y :: r)=x % 128 + 128 * val (y :: r) from rfl,vK (by omega)];rw [show (x % 128 + 128 * val (y :: r)) / 128=val (y :: r) from by omega,ih];congr 1;omega
theorem qBz (f:Nat) (u:Int):qZ f u ≠ []:=by cases f <;> unfold qZ <;> (try split) <;> simp
theorem yD.cons {x:Int} {ys:List Int} (h0:128 <= x) (h1:x <= 255) (h:yD ys):yD (x :: ys):=by
 cases ys with
 | nil=>exact h.elim
 | cons y r=>exact ⟨h0,h1,h⟩
theorem qEc:∀ (f:Nat) (u:Int),0 <= u -> uH f u -> yD (qZ f u)
 | 0,u,h,hf=>⟨h,hf⟩
 | f + 1,u,h,hf=>by
   by_cases hc:128 <= u
   ·rw [vK hc]
    exact yD.cons (by omega) (by omega) (qEc f (u / 128) (by omega) (by simp only [uH] at hf;exact hf.resolve_left (by omega)))
   ·rw [xE hc];exact ⟨h,by omega⟩
theorem qCn:∀ (f:Nat) (u:Int),0 <= u -> uH f u -> val (qZ f u)=u
 | 0,u,h,hf=>by simp only [uH] at hf;simp only [qZ,val];omega
 | f + 1,u,h,hf=>by
   by_cases hc:128 <= u
   ·rw [vK hc,val,qCn f (u / 128) (by omega) (by simp only [uH] at hf;exact hf.resolve_left (by omega))];omega
   ·rw [xE hc];simp only [val];omega
theorem qJr:∀ (f:Nat) (u:Int),0 <= u -> uH f u -> qLy (qZ f u)
 | 0,u,h,hf=>trivial
 | f + 1,u,h,hf=>by
   by_cases hc:128 <= u
   ·have hf':uH f (u / 128):=by simp only [uH] at hf;exact hf.resolve_left (by omega)
    have ih:=qJr f (u / 128) (by omega) hf';have hv:=qCn f (u / 128) (by omega) hf';rw [vK hc]
    match hy:qZ f (u / 128) with
    | []=>exact absurd hy (qBz _ _)
    | [y] =>
      rw [hy] at hv;simp only [val] at hv;show y ≠ 0;omega
    | y :: z :: r=>rw [hy] at ih;exact ih
   ·rw [xE hc];trivial
theorem qJs:∀ (x y:Int) (r:List Int),yD (x :: y :: r) -> qLz (x :: y :: r) -> qAs (x :: y :: r) < -64 ∨ 64 <= qAs (x :: y :: r)
 | x,y,[],h,c=>by
   simp only [yD,qLz,qAs,ext] at *;split <;> omega
 | x,y,z :: r,h,c=>by
   have:=qJs y z r h.2.2 c;rw [show qAs (x :: y :: z :: r)=x % 128 + 128 * qAs (y :: z :: r) from rfl];omega
theorem qN9:∀ (ys:List Int) (f:Nat),yD ys -> qLz ys -> ys.length <= f + 1 -> yH f (qAs ys)=ys
 | [x],f,h,_,_=>by
   simp only [yD,qAs] at *;have he:-64 <= ext x /\ ext x < 64 /\ ext x % 128=x:=by unfold ext;split <;> omega
   rw [xF (by omega),he.2.2]
 | x :: y :: r,f,h,c,hl=>by
   have h1:=qJs x y r h c;have hc:qLz (y :: r):=by cases r <;> simp_all [qLz]
   obtain ⟨f',rfl⟩:∃ f',f=f' + 1:=⟨f - 1,by simp at hl;omega⟩
   have ih:=qN9 (y :: r) f' h.2.2 hc (by simpa using hl);have hx:=h.1;have hx':=h.2.1;rw [show qAs (x :: y :: r)=x % 128 + 128 * qAs (y :: r) from rfl] at h1 ⊢;rw [vM h1];rw [show (x % 128 + 128 * qAs (y :: r)) / 128=qAs (y :: r) from by omega,ih];congr 1;omega
theorem qIp (f:Nat) (u:Int):yH f u ≠ []:=by cases f <;> unfold yH <;> (try split) <;> simp
theorem qB0:∀ (f:Nat) (u:Int),vL f u -> yD (yH f u)
 | 0,u,hf=>by simp only [yH,yD];omega
 | f + 1,u,hf=>by
   by_cases hc:u < -64 ∨ 64 <= u
   ·rw [vM hc]
    exact yD.cons (by omega) (by omega) (qB0 f (u / 128) (by simp only [vL] at hf;exact hf.resolve_left (by omega)))
   ·rw [xF hc];simp only [yD];omega
theorem qCo:∀ (f:Nat) (u:Int),vL f u -> qAs (yH f u)=u
 | 0,u,hf=>by simp only [vL] at hf;simp only [yH,qAs,ext];split <;> omega
 | f + 1,u,hf=>by
   by_cases hc:u < -64 ∨ 64 <= u
   ·have ih:=qCo f (u / 128) (by simp only [vL] at hf;exact hf.resolve_left (by omega))
    rw [vM hc]
    match hy:yH f (u / 128) with
    | []=>exact absurd hy (qIp _ _)
    | y :: r=>rw [hy] at ih;rw [show qAs ((u % 128 + 128) :: y :: r)=(u % 128 + 128) % 128 + 128 * qAs (y :: r) from rfl,ih];omega
   ·rw [xF hc];simp only [qAs,ext];split <;> omega
theorem qJt:∀ (f:Nat) (u:Int),vL f u -> qLz (yH f u)
 | 0,u,hf=>trivial
 | f + 1,u,hf=>by
   by_cases hc:u < -64 ∨ 64 <= u
   ·have hf':vL f (u / 128):=by simp only [vL] at hf;exact hf.resolve_left (by omega)
    have ih:=qJt f (u / 128) hf';have hv:=qCo f (u / 128) hf';have hs:=qB0 f (u / 128) hf';rw [vM hc]
    match hy:yH f (u / 128) with
    | []=>exact absurd hy (qIp _ _)
    | [y] =>
      rw [hy] at hv hs;simp only [qAs,ext] at hv;simp only [yD] at hs;show ¬ (y=0 /\ (u % 128 + 128) % 128 < 64) /\ ¬ (y=127 /\ 64 <= (u % 128 + 128) % 128);split at hv <;> omega
    | y :: z :: r=>rw [hy] at ih;exact ih
   ·rw [xF hc];trivial
theorem qHb:∀ (low:List Int) (t:Int),(∀ x ∈ low,128 <= x /\ x <= 255) -> 0 <= t -> t < 128 -> yD (low ++ [t])
 | [],t,_,h0,h1=>⟨h0,h1⟩
 | x :: r,t,h,h0,h1=>yD.cons (h x (by simp)).1 (h x (by simp)).2 (qHb r t (fun y hy=>h y (by simp [hy])) h0 h1)
theorem qDi:∀ (low:List Int) (t:Int),val (low ++ [t])=val low + 128 ^ low.length * (t % 128)
 | [],t=>by simp [val]
 | x :: r,t=>by
   rw [List.cons_append,val,qDi r t,val,qXg,Int.pow_succ];generalize (128:Int) ^ r.length=q;rw [Int.mul_add,Int.mul_comm q 128,Int.mul_assoc];omega
theorem qFn:∀ (low:List Int) (t:Int),qAs (low ++ [t])=val low + 128 ^ low.length * ext t
 | [],t=>by simp [val,qAs]
 | x :: r,t=>by
   have:qAs (x :: (r ++ [t]))=x % 128 + 128 * qAs (r ++ [t]):=by cases r <;> rfl
   rw [List.cons_append,this,qFn r t,val,qXg,Int.pow_succ];generalize (128:Int) ^ r.length=q;rw [Int.mul_add,Int.mul_comm q 128,Int.mul_assoc];omega
theorem qJu:∀ (low:List Int) (t:Int),qLy (low ++ [t]) ↔ (low.length=0 ∨ t ≠ 0)
 | [],t=>by simp [qLy]
 | [x],t=>by simp [qLy]
 | x :: y :: r,t=>by
   have:=qJu (y :: r) t;simp at this;have e:qLy (x :: y :: r ++ [t])=qLy (y :: (r ++ [t])):=by cases r <;> rfl
   rw [e,this];simp
theorem qJv:∀ (low:List Int) (t:Int),qLz (low ++ [t]) ↔ (low.length=0 ∨ (¬ (t=0 /\ low.getD (low.length - 1) 0 % 128 < 64) /\ ¬ (t=127 /\ 64 <= low.getD (low.length - 1) 0 % 128)))
 | [],t=>by simp [qLz]
 | [x],t=>by simp [qLz]
 | x :: y :: r,t=>by
   have:=qJv (y :: r) t;have e:qLz (x :: y :: r ++ [t])=qLz (y :: r ++ [t]):=by cases r <;> rfl
   rw [e,this];simp
theorem qOa:∀ low:List Int,val low < 128 ^ low.length
 | []=>by simp [val]
 | x :: r=>by
   have:=qOa r;rw [val,qXg,Int.pow_succ];generalize (128:Int) ^ r.length=q at *;omega
structure Stop (xs:List Int) (most k:Nat):Prop where
 lt:k < xs.length
 most:k < most
 more:∀ i,i < k -> 128 <= xs.getD i 0
 last:xs.getD k 0 < 128
theorem qIq (xs:List Int):∀ most:Nat,(∃ k,Stop xs most k) ∨ (most <= xs.length /\ ∀ i,i < most -> 128 <= xs.getD i 0) ∨ (xs.length < most /\ ∀ i,i < xs.length -> 128 <= xs.getD i 0)
 | 0=>.inr (.inl ⟨qXf _,fun i h=>by omega⟩)
 | m + 1=>by
   rcases qIq xs m with ⟨k,h⟩ | ⟨h,g⟩ | ⟨h,g⟩
   ·exact .inl ⟨k,h.lt,by have:=h.most;omega,h.more,h.last⟩
   ·by_cases hl:m < xs.length
    ·by_cases hx:128 <= xs.getD m 0
     ·refine .inr (.inl ⟨hl,fun i hi=>?_⟩)
      by_cases e:i=m
      ·subst e;exact hx
      ·exact g i (by omega)
     ·exact .inl ⟨m,hl,by omega,g,by omega⟩
    ·have e:m=xs.length:=by omega
     subst e;exact .inr (.inr ⟨by omega,g⟩)
   ·exact .inr (.inr ⟨by omega,g⟩)
def low (xs:List Int) (k:Nat):List Int:=xs.take k
theorem qBf (xs:List Int) (k:Nat) (h:k < xs.length):xs.take (k + 1)=low xs k ++ [xs.getD k 0]:=by
 unfold low;rw [List.take_succ_eq_append_getElem h];simp [List.getD,h]
theorem yZ (xs:List Int) (k:Nat) (h:k < xs.length):(low xs k).length=k:=by unfold low;simp;omega
def Bs (xs:List Int):Prop:=∀ x ∈ xs,0 <= x /\ x <= 255
theorem Bs.getD {xs:List Int} (h:Bs xs) (i:Nat):0 <= xs.getD i 0 /\ xs.getD i 0 <= 255:=by
 by_cases hi:i < xs.length
 ·have:=h xs[i] (List.getElem_mem hi)
  simpa [List.getD,hi] using this
 ·simp [List.getD,hi]
theorem Stop.lows {xs:List Int} {most k:Nat} (h:Stop xs most k) (hb:Bs xs):∀ x ∈ low xs k,128 <= x /\ x <= 255:=by
 intro x hx;obtain ⟨i,hi,rfl⟩:=List.mem_iff_getElem.1 hx;have hk:i < k:=by rw [yZ xs k h.lt] at hi;exact hi
 have e:(low xs k)[i]=xs.getD i 0:=by
  have:=h.lt;simp [low,List.getD,show i < xs.length by omega]
 rw [e];exact ⟨h.more i hk,(hb.getD i).2⟩
theorem Stop.shape {xs:List Int} {most k:Nat} (h:Stop xs most k) (hb:Bs xs):yD (xs.take (k + 1)):=by
 rw [qBf xs k h.lt];exact qHb _ _ (h.lows hb) (hb.getD k).1 h.last
def qDv (xs:List Int) (bits:Int) (k:Nat):Prop:=qLy (xs.take (k + 1)) /\ val (xs.take (k + 1)) < 2 ^ bits.toNat
theorem qHc {xs:List Int} {k most:Nat} (h:Stop xs most k) (hb:Bs xs) (bits:Int) (hr:7 * (k:Int) < bits) :
    qDv xs bits k ↔ (k=0 ∨ xs.getD k 0 ≠ 0) /\ xs.getD k 0 < 2 ^ (bits - 7 * k).toNat:=by
 unfold qDv
 rw [qBf xs k h.lt,qJu,qDi,yZ xs k h.lt]
 have hl:=qOa (low xs k)
 have hn:=xW (low xs k)
 rw [yZ xs k h.lt] at hl
 have ht:=hb.getD k
 have ht2:=h.last
 have e:(2:Int) ^ bits.toNat=128 ^ k * 2 ^ (bits - 7 * k).toNat:=by
  rw [show (128:Int)=2 ^ 7 from by decide,<- Int.pow_mul,<- Int.pow_add];congr 1;omega
 rw [e]
 generalize (2:Int) ^ (bits - 7 * k).toNat=r at *
 have hq:(0:Int) < 128 ^ k:=Int.pow_pos (by decide)
 generalize (128:Int) ^ k=q at *
 generalize xs.getD k 0=t at *
 generalize val (low xs k)=v at *
 rw [show t % 128=t from by omega]
 refine and_congr Iff.rfl ⟨fun hh=>?_,fun hh=>?_⟩
 ·have:q * t < q * r:=by omega
  exact Int.lt_of_mul_lt_mul_left this (by omega)
 ·have h1:q * (t + 1) <= q * r:=Int.mul_le_mul_of_nonneg_left (by omega) (by omega)
  rw [Int.mul_add] at h1;omega
def qB1 (xs:List Int) (bits:Int) (k:Nat):Prop:=qLz (xs.take (k + 1)) /\ -2 ^ (bits - 1).toNat <= qAs (xs.take (k + 1)) /\ qAs (xs.take (k + 1)) < 2 ^ (bits - 1).toNat
theorem qHd {xs:List Int} {k most:Nat} (h:Stop xs most k) (bits:Int) (hr:7 * (k:Int) < bits) :
    qB1 xs bits k ↔ (k=0 ∨ (¬ (xs.getD k 0=0 /\ xs.getD (k - 1) 0 % 128 < 64) /\ ¬ (xs.getD k 0=127 /\ 64 <= xs.getD (k - 1) 0 % 128))) /\ -2 ^ (bits - 7 * k - 1).toNat <= ext (xs.getD k 0) /\ ext (xs.getD k 0) < 2 ^ (bits - 7 * k - 1).toNat:=by
 unfold qB1
 rw [qBf xs k h.lt,qJv,qFn,yZ xs k h.lt]
 have hlt:=h.lt
 have e0:k ≠ 0 -> (low xs k).getD (k - 1) 0=xs.getD (k - 1) 0:=fun hk=>by
  simp [low,List.getD,show k - 1 < k by omega,show k - 1 < xs.length by omega]
 have hl:=qOa (low xs k)
 have hn:=xW (low xs k)
 rw [yZ xs k h.lt] at hl
 have e:(2:Int) ^ (bits - 1).toNat=128 ^ k * 2 ^ (bits - 7 * k - 1).toNat:=by
  rw [show (128:Int)=2 ^ 7 from by decide,<- Int.pow_mul,<- Int.pow_add];congr 1;omega
 rw [e]
 refine and_congr ?_ ?_
 ·by_cases hk:k=0
  ·simp [hk]
  ·rw [e0 hk]
 generalize (2:Int) ^ (bits - 7 * k - 1).toNat=r at *
 have hq:(0:Int) < 128 ^ k:=Int.pow_pos (by decide)
 generalize (128:Int) ^ k=q at *
 generalize ext (xs.getD k 0)=t at *
 generalize val (low xs k)=v at *
 refine ⟨fun ⟨g1,g2⟩=>⟨?_,?_⟩,fun ⟨g1,g2⟩=>⟨?_,?_⟩⟩
 ·have:q * (-r) < q * (t + 1):=by rw [Int.mul_add,Int.mul_neg];omega
  have:=Int.lt_of_mul_lt_mul_left this (by omega);omega
 ·have:q * t < q * r:=by omega
  exact Int.lt_of_mul_lt_mul_left this (by omega)
 ·have h1:q * (-r) <= q * t:=Int.mul_le_mul_of_nonneg_left (by omega) (by omega)
  rw [Int.mul_neg] at h1;omega
 ·have h1:q * (t + 1) <= q * r:=Int.mul_le_mul_of_nonneg_left (by omega) (by omega)
  rw [Int.mul_add] at h1;omega
open Go.RowKit
theorem qG:(Tryz.prog.info? 5).map (fun i=>(i.zero,i.size,i.bytes))=some (some (.int .u8 0),1,1):=by kernel_rfl
theorem qHe (ao:Option Addr) (n cap:Nat) (xs:List Int) (w:World) (hr:Rd .u8 w ao n cap xs) (hn:n <= 1099511627776) :
    Calls Tryz.prog 179 #[.slice ao n cap] w fun e w'=>∃ v,e=.returned v /\ Own 5 .u8 w.heap.size w' v xs /\ Below w.heap.size w w':=by
 obtain ⟨i,hi,hz0,hz1,hz2⟩:=info_parts qG
 have hb:i.bytes * (n + 10) <= 281474976710656:=by rw [hz2];omega
 clear hz2
 go_enter Tryz.func179,Tryz.ntmps179
 go_wp2_with (first
  | (at_make;refine wpList_make_own _ rfl _ _ 37 rfl w.heap.size 5 i (.int .u8 0) 1 Tryz.underlying37 hi hz0 hz1 _ _ _ (n + 10) rfl rfl (by omega) hb (by unfold maxLen;omega) (qW8 _) ?_;intro w1 hown hgrow)
  | (at_builtin;refine qA rfl _ _ 37 rfl 5 .u8 w.heap.size 1 Tryz.underlying37 qG _ [] rfl ⟨hown,fun _ h=>by cases h⟩ ao n cap xs rfl (hr.below ((qXh _ _).grown hgrow (qW8 _) (fun _ h=>by cases h))) (by simp;omega) (by simp;omega) hgrow.size ?_;intro v' w' h1 h2 _))
 go_ret
 exact ⟨_,rfl,by simpa using h1,((qXh _ _).grown hgrow (qW8 _) (fun _ h=>by cases h)).trans h2⟩
theorem qJw (ao:Option Addr) (n cap:Nat) (xs:List Int) (u:Int) (w:World) (hr:Rd .u8 w ao n cap xs) (hn:n <= 1099511627776) (h1:0 <= u) (h2:u <= 18446744073709551615) :
    Calls Tryz.prog 137 #[.slice ao n cap,.int .u64 u] w fun e w'=>∃ v,e=.returned v /\ Own 5 .u8 w.heap.size w' v (xs ++ qZ 9 u) /\ Below w.heap.size w w':=by
 go_enter Tryz.func137,Tryz.ntmps137
 go_wp2_with fail
 refine xQ 0 (fun a' w'=>∃ (f:Nat) (u':Int) (pre:List Int) (v u2 u3 u6 u7 u8 u9 u10 u11 u12 u13 u14 u15 u16 u17 u18 u19 u20 u21 u22:Value),
     a'={ tmps:=#[.slice ao n cap,.int .u64 u',u2,u3,.slice none 0 0,v,u6,u7,u8,u9,u10,u11,u12,u13,u14,u15,u16,u17,u18,u19,u20,u21,u22],defers:=[] } /\
     Own 5 .u8 w.heap.size w' v (xs ++ pre) /\ Below w.heap.size w w' /\ pre ++ qZ f u'=qZ 9 u /\ uH f u' /\ 0 <= u' /\ u' <= 18446744073709551615 /\ pre.length + f=9)
  (fun a' _=>(intOf (a'.tmps.getD 1 undef)).toNat) rfl ?_ ?_
 ·intro Q' hQ'
  go_wp2_with (go_at_call 179;refine (qHe ao n cap xs _ hr hn).mono ?_;rintro e w' ⟨v,rfl,hv,hb⟩)
  go_step3;rename_i K hK;refine hK _ _ (hQ' _ _ ⟨9,u,[],v,_,_,_,_,_,_,_,_,_,_,_,_,_,_,_,_,_,_,_,rfl,by simpa using hv,hb,rfl,qTu u h1 h2,h1,h2,rfl⟩)
 ·rintro a' w' ⟨f,u',pre,v,u2,u3,u6,u7,u8,u9,u10,u11,u12,u13,u14,u15,u16,u17,u18,u19,u20,u21,u22,rfl,hv,hb,hp,hf,g1,g2,hl⟩
  have Hp:=hid hp;have Hl:=hid hl;clear hp hl;have hlen:pre.length <= 9:=by have:=Hl.out;omega
  have hx:=hr.len;have Hx:=hid hx;have hxl:xs.length <= 1099511627776:=by omega
  clear hx;have hsz:=hb.size;by_cases hc:128 <= u'
  ·go_wp2_with (at_builtin;refine qA rfl _ _ 37 rfl 5 .u8 w.heap.size 1 Tryz.underlying37 qG _ _ rfl (hv.alloc _) _ 1 1 _ rfl (Rd.built _ _ _ _ (wf_bits _ _ _ _)) (by simp;omega) (by simp;omega) (by simp;omega) ?_;intro v' w1 h3 h4 _)
   go_step3
   obtain ⟨f',rfl⟩:∃ f',f=f' + 1:=by
    cases f with
    | zero=>simp only [uH] at hf;omega
    | succ f'=>exact ⟨f',rfl⟩
   refine ⟨rfl,⟨f',u' / 128,pre ++ [u' % 128 + 128],v',_,_,_,_,_,_,_,_,_,_,_,_,_,_,_,_,_,_,_,rfl,?_,(hb.alloc hsz _).trans h4,?_,?_,by omega,by omega,?_⟩,?_⟩
   ·rw [<- qXe]
    rw [qUp _ (by omega) (by omega)] at h3;rw [show u' % 256 % 128=u' % 128 from by omega] at h3;exact h3
   ·rw [<- Hp.out,vK hc];simp
   ·simp only [uH] at hf;exact hf.resolve_left (by omega)
   ·have:=Hl.out;simp;omega
   ·simp [intOf];omega
  ·go_wp2_with (at_builtin;refine qA rfl _ _ 37 rfl 5 .u8 w.heap.size 1 Tryz.underlying37 qG _ _ rfl (hv.alloc _) _ 1 1 _ rfl (Rd.built _ _ _ _ (WalkArith.wf_u8 (by omega))) (by simp;omega) (by simp;omega) (by simp;omega) ?_;intro v' w1 h3 h4 _)
   simp only [Exit.jump];go_ret;refine ⟨_,rfl,?_,(hb.alloc hsz _).trans h4⟩;rw [<- Hp.out,xE (by omega),<- qXe];exact h3
theorem qQ9 (ao:Option Addr) (n cap:Nat) (xs:List Int) (u:Int) (w:World) (hr:Rd .u8 w ao n cap xs) (hn:n <= 1099511627776) (h1:-9223372036854775808 <= u) (h2:u <= 9223372036854775807) :
    Calls Tryz.prog 208 #[.slice ao n cap,.int .i64 u] w fun e w'=>∃ v,e=.returned v /\ Own 5 .u8 w.heap.size w' v (xs ++ yH 9 u) /\ Below w.heap.size w w':=by
 go_enter Tryz.func208,Tryz.ntmps208
 go_wp2_with fail
 refine xQ 0 (fun a' w'=>∃ (f:Nat) (u':Int) (pre:List Int) (v u2 u3 u6 u7 u8 u9 u10 u11 u12 u13 u14 u15 u16 u17 u18 u19 u20 u21 u22 u23 u24 u25 u26 u27: Value),
     a'={ tmps:=#[.slice ao n cap,.int .i64 u',u2,u3,.slice none 0 0,v,u6,u7,u8,u9,u10,u11,u12,u13,u14,u15,u16,u17,u18,u19,u20,u21,u22,u23,u24,u25,u26,u27],defers:=[] } /\
     Own 5 .u8 w.heap.size w' v (xs ++ pre) /\ Below w.heap.size w w' /\ pre ++ yH f u'=yH 9 u /\ vL f u' /\ -9223372036854775808 <= u' /\ u' <= 9223372036854775807 /\ pre.length + f=9)
  (fun a' _=>(max (intOf (a'.tmps.getD 1 undef)) (-intOf (a'.tmps.getD 1 undef))).toNat) rfl ?_ ?_
 ·intro Q' hQ'
  go_wp2_with (go_at_call 179;refine (qHe ao n cap xs _ hr hn).mono ?_;rintro e w' ⟨v,rfl,hv,hb⟩)
  go_step3;rename_i K hK;refine hK _ _ (hQ' _ _ ⟨9,u,[],v,_,_,_,_,_,_,_,_,_,_,_,_,_,_,_,_,_,_,_,_,_,_,_,_,rfl,by simpa using hv,hb,rfl,qN7 u h1 h2,h1,h2,rfl⟩)
 ·rintro a' w' ⟨f,u',pre,v,u2,u3,u6,u7,u8,u9,u10,u11,u12,u13,u14,u15,u16,u17,u18,u19,u20,u21,u22,u23,u24,u25,u26,u27,rfl,hv,hb,hp,hf,g1,g2,hl⟩
  have Hp:=hid hp;have Hl:=hid hl;clear hp hl;have hlen:pre.length <= 9:=by have:=Hl.out;omega
  have hx:=hr.len;have Hx:=hid hx;have hxl:xs.length <= 1099511627776:=by omega
  clear hx;have hsz:=hb.size;rcases (show (u' < -64 ∨ 64 <= u') ∨ (-64 <= u' /\ u' < 64) from by omega) with hc | ⟨hc,hc'⟩
  ·obtain ⟨f',rfl⟩:∃ f',f=f' + 1:=by
      cases f with
      | zero=>simp only [vL] at hf;omega
      | succ f'=>exact ⟨f',rfl⟩
   have hfs:vL f' (u' / 128):=by simp only [vL] at hf;exact hf.resolve_left (by omega)
   have Hc:=hid hc;rcases hc with hc | hc
   all_goals
    go_wp2_with (at_builtin;refine qA rfl _ _ 37 rfl 5 .u8 w.heap.size 1 Tryz.underlying37 qG _ _ rfl (hv.alloc _) _ 1 1 _ rfl (Rd.built _ _ _ _ (wf_bits _ _ _ _)) (by simp;omega) (by simp;omega) (by simp;omega) ?_;intro v' w1 h3 h4 _)
    go_step3
    refine ⟨rfl,⟨f',u' / 128,pre ++ [u' % 128 + 128],v',_,_,_,_,_,_,_,_,_,_,_,_,_,_,_,_,_,_,_,_,_,_,_,_,rfl,?_,(hb.alloc hsz _).trans h4,?_,hfs,by omega,by omega,?_⟩,?_⟩
    ·rw [<- qXe]
     rw [qUp _ (by omega) (by omega)] at h3;rw [show u' % 256 % 128=u' % 128 from by omega] at h3;exact h3
    ·rw [<- Hp.out,vM Hc.out];simp
    ·have:=Hl.out;simp;omega
    ·simp [intOf];omega
  ·go_wp2_with (at_builtin;refine qA rfl _ _ 37 rfl 5 .u8 w.heap.size 1 Tryz.underlying37 qG _ _ rfl (hv.alloc _) _ 1 1 _ rfl (Rd.built _ _ _ _ (wf_bits _ _ _ _)) (by simp;omega) (by simp;omega) (by simp;omega) ?_;intro v' w1 h3 h4 _)
   simp only [Exit.jump];go_ret;refine ⟨_,rfl,?_,(hb.alloc hsz _).trans h4⟩;rw [<- Hp.out,xF (by omega),<- qXe];rw [qUq _ (by omega) (by omega)] at h3;rw [show u' % 256 % 128=u' % 128 from by omega] at h3;exact h3
open Go.RowKit
theorem yL (u:Int) (w:World) (h1:0 <= u) (h2:u <= 18446744073709551615) :
    Calls Tryz.prog 124 #[.int .u64 u] w fun e w'=>∃ v,e=.returned v /\ Own 5 .u8 w.heap.size w' v (qZ 9 u) /\ Below w.heap.size w w':=by
 go_enter Tryz.func124,Tryz.ntmps124
 go_wp2
 go_loopw [0,3] (fun n v wr=>∃ (f:Nat) (u':Int) (pre:List Int),n=.int .u64 u' /\ Own 5 .u8 w.heap.size wr v pre /\ Below w.heap.size w wr /\ Hid (pre ++ qZ f u'=qZ 9 u) /\ uH f u' /\ 0 <= u' /\ u' <= 18446744073709551615 /\ Hid (pre.length + f=9))
  (fun n _ _=>(intOf n).toNat)
 case atStart=>exact ⟨9,u,[],rfl,Own.nil _ _ _ _,qXh _ _,rfl,qTu u h1 h2,h1,h2,rfl⟩
 case round =>
  obtain ⟨f,u',pre,rfl,hv,hb,Hp,hf,g1,g2,Hl⟩:=hrel;have hlen:pre.length <= 9:=by have:=Hl.out;omega
  have hsz:=hb.size;by_cases hc:128 <= u'
  ·go_wp2_with (at_builtin;refine qA rfl _ _ 37 rfl 5 .u8 w.heap.size 1 Tryz.underlying37 qG _ _ rfl (hv.alloc _) _ 1 1 _ rfl (Rd.built _ _ _ _ (WalkArith.wf_u8 (by omega))) (by simp;omega) (by simp;omega) (by simp;omega) ?_;intro v' w1 h3 h4 _)
   obtain ⟨f',rfl⟩:∃ f',f=f' + 1:=by
    cases f with
    | zero=>simp only [uH] at hf;omega
    | succ f'=>exact ⟨f',rfl⟩
   go_roundw
   case rel =>
    refine ⟨f',u' / 128,pre ++ [u' % 128 + 128],rfl,h3,(hb.alloc hsz _).trans h4,?_,?_,by omega,by omega,?_⟩
    ·show _=_
     rw [<- Hp.out,vK hc];simp
    ·simp only [uH] at hf;exact hf.resolve_left (by omega)
    ·have:=Hl.out;show _=_;simp;omega
   case measure=>simp [intOf];omega
  ·go_wp2_with (at_builtin;refine qA rfl _ _ 37 rfl 5 .u8 w.heap.size 1 Tryz.underlying37 qG _ _ rfl (hv.alloc _) _ 1 1 _ rfl (Rd.built _ _ _ _ (WalkArith.wf_u8 (by omega))) (by simp;omega) (by simp;omega) (by simp;omega) ?_;intro v' w1 h3 h4 _)
   go_ret;refine ⟨_,rfl,?_,(hb.alloc hsz _).trans h4⟩;rw [<- Hp.out,xE (by omega)];exact h3
theorem qRa (u:Int) (w:World) (h1:-9223372036854775808 <= u) (h2:u <= 9223372036854775807) :
    Calls Tryz.prog 177 #[.int .i64 u] w fun e w'=>∃ v,e=.returned v /\ Own 5 .u8 w.heap.size w' v (yH 9 u) /\ Below w.heap.size w w':=by
 go_enter Tryz.func177,Tryz.ntmps177
 go_wp2
 go_loopw [0,3] (fun n v wr=>∃ (f:Nat) (u':Int) (pre:List Int),n=.int .i64 u' /\ Own 5 .u8 w.heap.size wr v pre /\ Below w.heap.size w wr /\ Hid (pre ++ yH f u'=yH 9 u) /\ vL f u' /\ -9223372036854775808 <= u' /\ u' <= 9223372036854775807 /\ Hid (pre.length + f=9))
  (fun n _ _=>(max (intOf n) (-intOf n)).toNat)
 case atStart=>exact ⟨9,u,[],rfl,Own.nil _ _ _ _,qXh _ _,rfl,qN7 u h1 h2,h1,h2,rfl⟩
 case round =>
  obtain ⟨f,u',pre,rfl,hv,hb,Hp,hf,g1,g2,Hl⟩:=hrel;have hlen:pre.length <= 9:=by have:=Hl.out;omega
  have hsz:=hb.size;rcases (show (u' < -64 ∨ 64 <= u') ∨ (-64 <= u' /\ u' < 64) from by omega) with hc | ⟨hc,hc'⟩
  ·obtain ⟨f',rfl⟩:∃ f',f=f' + 1:=by
      cases f with
      | zero=>simp only [vL] at hf;omega
      | succ f'=>exact ⟨f',rfl⟩
   have hfs:vL f' (u' / 128):=by simp only [vL] at hf;exact hf.resolve_left (by omega)
   have Hc:=hid hc;rcases hc with hc | hc
   all_goals
    go_wp2_with (at_builtin;refine qA rfl _ _ 37 rfl 5 .u8 w.heap.size 1 Tryz.underlying37 qG _ _ rfl (hv.alloc _) _ 1 1 _ rfl (Rd.built _ _ _ _ (WalkArith.wf_u8 (by omega))) (by simp;omega) (by simp;omega) (by simp;omega) ?_;intro v' w1 h3 h4 _)
    go_roundw
    case rel =>
     refine ⟨f',u' / 128,pre ++ [u' % 128 + 128],rfl,?_,(hb.alloc hsz _).trans h4,?_,hfs,by omega,by omega,?_⟩
     ·rw [qDy] at h3
      rw [show (u' % 128 + 128) % 256=u' % 128 + 128 from by omega] at h3;exact h3
     ·show _=_
      rw [<- Hp.out,vM Hc.out];simp
     ·have:=Hl.out;show _=_;simp;omega
    case measure=>simp [intOf];omega
  ·go_wp2_with (at_builtin;refine qA rfl _ _ 37 rfl 5 .u8 w.heap.size 1 Tryz.underlying37 qG _ _ rfl (hv.alloc _) _ 1 1 _ rfl (Rd.built _ _ _ _ (WalkArith.wf_u8 (by omega))) (by simp;omega) (by simp;omega) (by simp;omega) ?_;intro v' w1 h3 h4 _)
   go_ret;refine ⟨_,rfl,?_,(hb.alloc hsz _).trans h4⟩;rw [<- Hp.out,xF (by omega)];rw [qDy] at h3;rw [show u' % 128 % 256=u' % 128 from by omega] at h3;exact h3
open Go.RowKit
theorem qOb (x:Int):bits BinOp.and IntKind.u8 x 127=x % 128 :=
 vD .u8 7 (by decide) (fun n h0 h1=>by
  have:(2:Int)^7=128:=by decide
  exact IntWalk.u8_in n (by omega)) x
theorem qTv {x:Int} (h0:0 <= x) (h1:x <= 255):(bits BinOp.and IntKind.u8 x 128 != 0)=decide (128 <= x):=by
 rw [qUr x h0 h1];by_cases h:128 <= x
 ·simp [h];omega
 ·simp [h];omega
theorem qIr (ao:Option Addr) (n cap:Nat) (xs:List Int) (bits:Int) (w:World) (hr:Rd .u8 w ao n cap xs) (h1:1 <= bits) (h2:bits <= 64) (m:Nat) (hm:(m:Int)=(bits + 6) / 7) :
    Calls Tryz.prog 187 #[.slice ao n cap,.int .i64 bits] w fun e w'=>w=w' /\
     ((∃ k,Stop xs m k /\ e=.returned (.tuple #[.int .i64 k,.int .i64 0])) ∨ ((m <= xs.length /\ ∀ i,i < m -> 128 <= xs.getD i 0) /\ e=.returned (.tuple #[.int .i64 0,.int .i64 1])) ∨
      ((xs.length < m /\ ∀ i,i < xs.length -> 128 <= xs.getD i 0) /\ e=.returned (.tuple #[.int .i64 0,.int .i64 2]))):=by
 have Hm:=hid hm
 have hm1:1 <= m:=by omega
 have hm2:m <= 10:=by omega
 clear hm
 go_enter Tryz.func187,Tryz.ntmps187
 go_wp2_with fail
 refine xQ 0 (fun a' w'=>w'=w /\ ∃ (k:Nat) (q r u2 u3 u8 u9 u10 u11 u12 u13 u14 u15 u16 u17 u18 u19 u20 u21 u22 u23 u24 u25 u26 u27 u28 u29 u30 u31 u32 u33:Value),
     a'={ tmps:=#[.slice ao n cap,.int .i64 bits,u2,u3,.int .i64 0,.int .i64 0,q,r,u8,u9,u10,u11,u12,u13,u14,u15,u16,u17,u18,u19,u20,u21,u22,u23,u24,u25,u26,u27,u28,u29,u30,u31,u32,u33],defers:=[] } /\
     q=.int .i64 m /\ r=.int .i64 k /\ k <= m /\ k <= n /\ ∀ i,i < k -> 128 <= xs.getD i 0)
  (fun a' _=>m - (intOf (a'.tmps.getD 7 undef)).toNat) rfl ?_ ?_
 ·intro Q' hQ'
  go_wp2_with fail;go_step3;rename_i K hK;refine hK _ _ (hQ' _ _ ⟨rfl,0,_,_,_,_,_,_,_,_,_,_,_,_,_,_,_,_,_,_,_,_,_,_,_,_,_,_,_,_,_,_,rfl,?_,rfl,qXf _,qXf _,fun i hi=>by omega⟩);have:=Hm.out;go_num
 ·rintro a' w' ⟨rfl,k,q,r,u2,u3,u8,u9,u10,u11,u12,u13,u14,u15,u16,u17,u18,u19,u20,u21,u22,u23,u24,u25,u26,u27,u28,u29,u30,u31,u32,u33,rfl,rfl,rfl,hkm,hkn,hall⟩
  have hx:=hr.len;have Hx:=hid hx;have hb:Bs xs:=fun x hx=>bounds_u8 (hr.wf x hx)
  clear hx;have Hall:=hid hall;clear hall;by_cases e1:k=m
  ·subst e1
   go_wp2_with fail;simp only [Exit.jump];go_ret2;exact ⟨rfl,.inr (.inl ⟨⟨by rw [Hx.out];exact hkn,Hall.out⟩,rfl⟩)⟩
  have d1:((k:Int) == (m:Int))=false:=by simp;omega
  by_cases e2:k=n
  ·subst e2
   go_wp2_with fail;simp only [Exit.jump];go_ret2;exact ⟨rfl,.inr (.inr ⟨⟨by rw [Hx.out];omega,fun i hi=>Hall.out i (by rw [Hx.out] at hi;exact hi)⟩,rfl⟩)⟩
  have d2:((k:Int) == (n:Int))=false:=by simp;omega
  obtain ⟨b,off,rfl,hc⟩:=hr.at (by omega)
  have hck:=hc k (by omega);have hbk:=hb.getD k
  obtain ⟨x,hxk⟩:∃ x,x=xs.getD k 0:=⟨_,rfl⟩
  rw [<- hxk] at hck hbk;have Hxk:=hid hxk;have hmk:=qTv hbk.1 hbk.2;clear hc hxk hr;by_cases e3:128 <= x
  ·rw [decide_eq_true (by omega)] at hmk
   go_wp2_with fail;go_step3;refine ⟨rfl,⟨rfl,k + 1,_,_,_,_,_,_,_,_,_,_,_,_,_,_,_,_,_,_,_,_,_,_,_,_,_,_,_,_,_,_,rfl,rfl,by go_num,by omega,by omega,?_⟩,?_⟩
   ·intro i hi
    by_cases e:i=k
    ·rw [e,<- Hxk.out];exact e3
    ·exact Hall.out i (by omega)
   ·simp [intOf];omega
  ·rw [decide_eq_false (by omega)] at hmk
   go_wp2_with fail;simp only [Exit.jump];go_ret2;exact ⟨rfl,.inl ⟨k,⟨by rw [Hx.out];omega,by omega,Hall.out,by rw [<- Hxk.out];omega⟩,rfl⟩⟩
open Go.RowKit
theorem Stop.one {xs:List Int} {m k k':Nat} (h:Stop xs m k) (h':Stop xs m k'):k=k':=by
 rcases Nat.lt_trichotomy k k' with g | g | g
 ·have:=h'.more k g;have:=h.last;omega
 ·exact g
 ·have:=h.more k' g;have:=h'.last;omega
theorem qBg (ao:Option Addr) (n cap:Nat) (xs:List Int) (bits:Int) (w:World) (hr:Rd .u8 w ao n cap xs) (h1:1 <= bits) (h2:bits <= 64) (m k:Nat) (hm:(m:Int)=(bits + 6) / 7) (hs:Stop xs m k) :
    Calls Tryz.prog 187 #[.slice ao n cap,.int .i64 bits] w fun e w'=>e=.returned (.tuple #[.int .i64 k,.int .i64 0]) /\ w=w':=by
 refine (qIr ao n cap xs bits w hr h1 h2 m hm).mono ?_
 rintro e w' ⟨rfl,⟨k',hk,rfl⟩ | ⟨⟨h,h'⟩,rfl⟩ | ⟨⟨h,h'⟩,rfl⟩⟩
 ·rw [hs.one hk];exact ⟨rfl,rfl⟩
 ·have:=h' k hs.most;have:=hs.last;omega
 ·have:=h' k hs.lt;have:=hs.last;omega
theorem qHf (ao:Option Addr) (n cap:Nat) (xs:List Int) (bits:Int) (w:World) (hr:Rd .u8 w ao n cap xs) (h1:1 <= bits) (h2:bits <= 64) (m:Nat) (hm:(m:Int)=(bits + 6) / 7) (hs:m <= xs.length /\ ∀ i,i < m -> 128 <= xs.getD i 0) :
    Calls Tryz.prog 187 #[.slice ao n cap,.int .i64 bits] w fun e w'=>e=.returned (.tuple #[.int .i64 0,.int .i64 1]) /\ w=w':=by
 refine (qIr ao n cap xs bits w hr h1 h2 m hm).mono ?_
 rintro e w' ⟨rfl,⟨k,hk,rfl⟩ | ⟨⟨h,h'⟩,rfl⟩ | ⟨⟨h,h'⟩,rfl⟩⟩
 ·have:=hs.2 k hk.most;have:=hk.last;omega
 ·exact ⟨rfl,rfl⟩
 ·omega
theorem qHg (ao:Option Addr) (n cap:Nat) (xs:List Int) (bits:Int) (w:World) (hr:Rd .u8 w ao n cap xs) (h1:1 <= bits) (h2:bits <= 64) (m:Nat) (hm:(m:Int)=(bits + 6) / 7) (hs:xs.length < m /\ ∀ i,i < xs.length -> 128 <= xs.getD i 0) :
    Calls Tryz.prog 187 #[.slice ao n cap,.int .i64 bits] w fun e w'=>e=.returned (.tuple #[.int .i64 0,.int .i64 2]) /\ w=w':=by
 refine (qIr ao n cap xs bits w hr h1 h2 m hm).mono ?_
 rintro e w' ⟨rfl,⟨k,hk,rfl⟩ | ⟨⟨h,h'⟩,rfl⟩ | ⟨⟨h,h'⟩,rfl⟩⟩
 ·have:=hs.2 k hk.lt;have:=hk.last;omega
 ·omega
 ·exact ⟨rfl,rfl⟩
theorem qCp (i bits:Int) (w:World) (h1:0 <= i) (h2:i <= 9) (h3:0 <= bits) (h4:bits <= 64) :
    Calls Tryz.prog 188 #[.int .i64 i,.int .i64 bits] w fun e w'=>e=.returned (.int .i64 (bits - 7 * i)) /\ w=w':=by
 go_enter Tryz.func188,Tryz.ntmps188
 go_wp2
 go_ret
 exact ⟨rfl,rfl⟩
theorem qRb (x:Int) (h1:0 <= x) (h2:x <= 255):IntKind.i8.wrap (x * 2 % 256) / 2=ext x :=
 uK (p:=fun x=>IntKind.i8.wrap (x * 2 % 256) / 2=ext x) (by decide +kernel) x h1 h2
theorem vA (x:Int) (w:World) (h1:0 <= x) (h2:x <= 255) :
    Calls Tryz.prog 228 #[.int .u8 x] w fun e w'=>e=.returned (.int .i8 (ext x)) /\ w=w':=by
 have h:=hid (qRb x h1 h2)
 go_enter Tryz.func228,Tryz.ntmps228
 go_wp2
 go_ret
 exact ⟨by rw [<- h.out];rfl,rfl⟩
def qDj (n:Int):List Int -> Int
 | []=>n
 | x :: r=>x % 128 + 128 * qDj n r
theorem qDk:∀ (low:List Int) (t:Int),qDj t low=val low + 128 ^ low.length * t
 | [],t=>by simp [qDj,val]
 | x :: r,t=>by
   rw [qDj,qDk r t,val,qXg,Int.pow_succ];generalize (128:Int) ^ r.length=q;rw [Int.mul_add,Int.mul_comm q 128,Int.mul_assoc];omega
theorem qOc (n x:Int):bits BinOp.or IntKind.u64 (IntKind.u64.wrap (n * 128)) (IntKind.u64.wrap (bits BinOp.and IntKind.u8 x 127))=(x % 128 + 128 * n) % 18446744073709551616:=by
 have e:(2:Int) ^ 7=128:=by decide
 rw [qOb,IntWalk.u64_in (x % 128) (by omega),IntKind.wrap_u64];have h3:(n * 128 % 18446744073709551616) % 2 ^ 7=0:=by rw [e];omega
 have h4:x % 128 < 2 ^ 7:=by rw [e];omega
 have h5:n * 128 % 18446744073709551616 < 2 ^ IntKind.u64.bits:=by
  have:(2:Int) ^ IntKind.u64.bits=18446744073709551616:=by decide
  rw [this];omega
 rw [qEl .u64 7 _ _ (by omega) (by omega) h4 h3 h5 (by decide) (IntWalk.u64_in _ (by omega))];omega
theorem qCq (ao:Option Addr) (n cap:Nat) (xs:List Int) (t:Int) (w:World) (hr:Rd .u8 w ao n cap xs) (h0:0 <= t) (h1:t <= 18446744073709551615) (hn:n <= 64) :
    Calls Tryz.prog 189 #[.int .u64 t,.slice ao n cap] w fun e w'=>e=.returned (.int .u64 (qDj t xs % 18446744073709551616)) /\ w=w':=by
 go_enter Tryz.func189,Tryz.ntmps189
 go_wp2_with fail
 refine xQ 0 (fun a' w'=>w'=w /\ ∃ (k:Nat) (q r u2 u3 u6 u7 u8 u9 u10 u11 u12 u13 u14 u15 u16 u17 u18 u19 u20 u21:Value),
     a'={ tmps:=#[q,.slice ao n cap,u2,u3,.int .u64 0,r,u6,u7,u8,u9,u10,u11,u12,u13,u14,u15,u16,u17,u18,u19,u20,u21],defers:=[] } /\
     r=.int .i64 k /\ q=.int .u64 (qDj t (xs.drop k) % 18446744073709551616) /\ k <= n)
  (fun a' _=>(intOf (a'.tmps.getD 5 undef)).toNat) rfl ?_ ?_
 ·intro Q' hQ'
  go_wp2_with fail;go_step3;rename_i K hK;refine hK _ _ (hQ' _ _ ⟨rfl,n,_,_,_,_,_,_,_,_,_,_,_,_,_,_,_,_,_,_,_,_,rfl,rfl,?_,qW8 _⟩);rw [<- hr.len,List.drop_length,qDj];go_num
 ·rintro a' w' ⟨rfl,k,q,r,u2,u3,u6,u7,u8,u9,u10,u11,u12,u13,u14,u15,u16,u17,u18,u19,u20,u21,rfl,rfl,rfl,hkn⟩
  obtain ⟨j,hj⟩:∃ j,j=qDj t (xs.drop k) % 18446744073709551616:=⟨_,rfl⟩
  have hj0:0 <= j:=by omega
  have hj1:j <= 18446744073709551615:=by omega
  rw [<- hj];have Hj:=hid hj;have hl:=hr.len;have Hl:=hid hl;have hw:∀ x ∈ xs,0 <= x /\ x <= 255:=fun x hx=>bounds_u8 (hr.wf x hx)
  clear hj hl
  cases k with
  | zero =>
    go_wp2_with fail;simp only [Exit.jump];go_ret;refine ⟨?_,rfl⟩;rw [Hj.out];rfl
  | succ k =>
    obtain ⟨b,off,rfl,hc⟩:=hr.at (by omega)
    have hck:=hc k (by omega)
    obtain ⟨x,hxk⟩:∃ x,x=xs.getD k 0:=⟨_,rfl⟩
    have hbk:=Bs.getD (xs:=xs) hw k;rw [<- hxk] at hck hbk;have Hxk:=hid hxk;have Hw:=hid hw;clear hc hxk hr hw;go_wp2_with fail;go_step3;refine ⟨rfl,⟨rfl,k,_,_,_,_,_,_,_,_,_,_,_,_,_,_,_,_,_,_,_,_,rfl,rfl,?_,by omega⟩,?_⟩
    ·rw [qOc j x,Hj.out]
     have hk:k < xs.length:=by rw [Hl.out];omega
     have e:xs.drop k=x :: xs.drop (k + 1):=by
      rw [List.drop_eq_getElem_cons hk];congr 1;rw [Hxk.out];simp [List.getD,hk]
     rw [e,qDj];go_num
    ·simp [intOf]
open Go.RowKit
theorem qTw:∀ (t:Fin 256) (j:Fin 9),((t.val:Int) / 2 ^ min j.val 8=0) ↔ ¬ (2 ^ j.val <= (t.val:Int)):=by decide +kernel
theorem qJx {t r:Int} (h0:0 <= t) (h1:t <= 255):(t / 2 ^ min r.toNat 8 != 0)=decide (2 ^ r.toNat <= t):=by
 generalize r.toNat=j
 have e:(t / 2 ^ min j 8=0) ↔ ¬ (2 ^ j <= t):=by
  by_cases hj:j <= 8
  ·have:=qTw ⟨t.toNat,by omega⟩ ⟨j,by omega⟩
   dsimp only at this;rw [Int.toNat_of_nonneg h0] at this;exact this
  ·have h8:(256:Int) <= 2 ^ j:=by
      have:=yR (show 8 <= j by omega);rw [show (2:Int) ^ 8=256 from by decide] at this;exact this
   rw [Nat.min_eq_right (by omega),show (2:Int) ^ 8=256 from by decide];generalize (2:Int) ^ j=q at *;omega
 by_cases h:(2:Int) ^ j <= t
 ·rw [decide_eq_true h,bne_iff_ne]
  exact fun hh=>e.1 hh h
 ·rw [decide_eq_false h,e.2 h];rfl
section
variable (ao:Option Addr) (n cap:Nat) (xs:List Int) (bits:Int) (w:World) (hr:Rd .u8 w ao n cap xs) (h1:1 <= bits) (h2:bits <= 64) (m k:Nat) (hm:(m:Int)=(bits + 6) / 7)
include hr h1 h2 hm
theorem qVf (hs:m <= xs.length /\ ∀ i,i < m -> 128 <= xs.getD i 0) :
    Calls Tryz.prog 163 #[.slice ao n cap,.int .i64 bits] w fun e w'=>e=.returned (.tuple #[.int .u64 0,.int .i64 0,.int .i64 1]) /\ w=w':=by
 have H:=hid (qHf ao n cap xs bits w hr h1 h2 m hm hs)
 clear hs hm
 go_enter Tryz.func163,Tryz.ntmps163
 go_wp2_with (go_at_call 187;refine H.out.mono ?_;rintro e w' ⟨rfl,rfl⟩)
 go_ret3
 exact ⟨rfl,rfl⟩
theorem qVg (hs:xs.length < m /\ ∀ i,i < xs.length -> 128 <= xs.getD i 0) :
    Calls Tryz.prog 163 #[.slice ao n cap,.int .i64 bits] w fun e w'=>e=.returned (.tuple #[.int .u64 0,.int .i64 0,.int .i64 2]) /\ w=w':=by
 have H:=hid (qHg ao n cap xs bits w hr h1 h2 m hm hs)
 clear hs hm
 go_enter Tryz.func163,Tryz.ntmps163
 go_wp2_with (go_at_call 187;refine H.out.mono ?_;rintro e w' ⟨rfl,rfl⟩)
 go_ret3
 exact ⟨rfl,rfl⟩
theorem qW2 (hs:Stop xs m k) (hg:qDv xs bits k) :
    Calls Tryz.prog 163 #[.slice ao n cap,.int .i64 bits] w fun e w'=>e=.returned (.tuple #[.int .u64 (val (xs.take (k + 1))),.int .i64 (k + 1),.int .i64 0]) /\ w=w':=by
 have hb:Bs xs:=fun x hx=>bounds_u8 (hr.wf x hx)
 have hkm:=hs.most
 have hkn:=hs.lt
 have hlen:=hr.len
 have H:=hid (qBg ao n cap xs bits w hr h1 h2 m k hm hs)
 have hkb:7 * (k:Int) < bits:=by omega
 obtain ⟨hg1,hg2⟩:=(qHc hs hb bits hkb).1 hg
 have hbk:=hb.getD k
 obtain ⟨x,hxk⟩:∃ x,x=xs.getD k 0:=⟨_,rfl⟩
 rw [<- hxk] at hg1 hg2 hbk
 obtain ⟨r,hr1⟩:∃ r,r=bits - 7 * (k:Int):=⟨_,rfl⟩
 rw [<- hr1] at hg2
 have hz:=qJx (r:=r) hbk.1 hbk.2
 rw [decide_eq_false (by omega)] at hz
 obtain ⟨b,off,rfl,hc⟩:=hr.at (by omega)
 have hck:=hc k (by omega)
 rw [<- hxk] at hck
 have hrr:1 <= r:=by omega
 have hr0:0 <= r:=by omega
 have hk9:k <= 9:=by omega
 have hkn':k < n:=by omega
 have hcap:k <= cap:=by have:=hr.le;omega
 have Hroom:=hid (show ∀ w,Calls Tryz.prog 188 #[.int .i64 k,.int .i64 bits] w fun e w'=>e=.returned (.int .i64 r) /\ w=w' from fun w=>by rw [hr1];exact qCp k bits w (by omega) (by omega) (by omega) (by omega))
 have Hjoin:=hid (qCq (some ⟨b,off,none⟩) k cap (xs.take k) x w (hr.upto (by omega)) (by omega) (by omega) (by omega))
 have hx128:x < 128:=by rw [hxk];exact hs.last
 clear hc hlen hm hr1 hs hb
 have Hxk:=hid hxk
 clear hxk
 have hval:val (xs.take (k + 1))=qDj x (xs.take k) % 18446744073709551616:=by
  have e2:=qBf xs k hkn;rw [<- Hxk.out] at e2;rw [show xs.take k=low xs k from rfl,qDk,e2,qDi];have hx2:=hx128;rw [show x % 128=x from by omega];have hv:=xW (xs.take (k + 1));rw [e2,qDi,show x % 128=x from by omega] at hv
  have hlt:val (xs.take (k + 1)) < 18446744073709551616:=by
   have h64:(2:Int) ^ bits.toNat <= 2 ^ 64:=yR (by omega);rw [show (2:Int) ^ 64=18446744073709551616 from by decide] at h64;have:=hg.2;omega
  rw [e2,qDi,show x % 128=x from by omega] at hlt;exact (Int.emod_eq_of_lt hv hlt).symm
 have Hval:=hid hval
 clear hval hg
 rcases (show k <= 0 ∨ (0 < k /\ x ≠ 0) from by rcases hg1 with h | h <;> omega) with hk0 | ⟨hk0,hx0⟩
 ·clear hg1
  have Hjoin0:=hid (qCq (some ⟨b,off,none⟩) 0 cap (xs.take 0) x w (hr.upto (by omega)) (by omega) (by omega) (by omega));go_enter Tryz.func163,Tryz.ntmps163
  go_wp2_with (first | (go_at_call 187;refine H.out.mono ?_;rintro e w' ⟨rfl,rfl⟩) | (go_at_call 188;refine (Hroom.out _).mono ?_;rintro e w' ⟨rfl,rfl⟩) | (go_at_call 189;refine Hjoin0.out.mono ?_;rintro e w' ⟨rfl,rfl⟩))
  go_ret3;exact ⟨by rw [Hval.out,show k=0 from by omega];rfl,rfl⟩
 ·have hx1:(x == 0)=false:=by simpa using hx0
  clear hg1 hx0;go_enter Tryz.func163,Tryz.ntmps163
  go_wp2_with (first | (go_at_call 187;refine H.out.mono ?_;rintro e w' ⟨rfl,rfl⟩) | (go_at_call 188;refine (Hroom.out _).mono ?_;rintro e w' ⟨rfl,rfl⟩) | (go_at_call 189;refine Hjoin.out.mono ?_;rintro e w' ⟨rfl,rfl⟩))
  go_ret3;exact ⟨by rw [Hval.out];rfl,rfl⟩
theorem qWd (hs:Stop xs m k) (hg:¬ qDv xs bits k) :
    Calls Tryz.prog 163 #[.slice ao n cap,.int .i64 bits] w fun e w'=>e=.returned (.tuple #[.int .u64 0,.int .i64 0,.int .i64 1]) /\ w=w':=by
 have hb:Bs xs:=fun x hx=>bounds_u8 (hr.wf x hx)
 have hkm:=hs.most
 have hkn:=hs.lt
 have hlen:=hr.len
 have H:=hid (qBg ao n cap xs bits w hr h1 h2 m k hm hs)
 have hkb:7 * (k:Int) < bits:=by omega
 rw [qHc hs hb bits hkb] at hg
 have hbk:=hb.getD k
 obtain ⟨x,hxk⟩:∃ x,x=xs.getD k 0:=⟨_,rfl⟩
 rw [<- hxk] at hg hbk
 obtain ⟨r,hr1⟩:∃ r,r=bits - 7 * (k:Int):=⟨_,rfl⟩
 rw [<- hr1] at hg
 have hz:=qJx (r:=r) hbk.1 hbk.2
 obtain ⟨b,off,rfl,hc⟩:=hr.at (by omega)
 have hck:=hc k (by omega)
 rw [<- hxk] at hck
 have hrr:1 <= r:=by omega
 have hr0:0 <= r:=by omega
 have hk9:k <= 9:=by omega
 have hkn':k < n:=by omega
 have Hroom:=hid (show ∀ w,Calls Tryz.prog 188 #[.int .i64 k,.int .i64 bits] w fun e w'=>e=.returned (.int .i64 r) /\ w=w' from fun w=>by rw [hr1];exact qCp k bits w (by omega) (by omega) (by omega) (by omega))
 clear hc hlen hm hr1 hs hb hxk
 by_cases hq:x < 2 ^ r.toNat
 ·have h0:0 < k /\ x=0:=by
     by_cases hk:k=0
     ·exact absurd ⟨.inl hk,hq⟩ hg
     ·by_cases hx:x=0
      ·exact ⟨by omega,hx⟩
      ·exact absurd ⟨.inr hx,hq⟩ hg
  obtain ⟨hk0,rfl⟩:=h0;clear hg hq hz;go_enter Tryz.func163,Tryz.ntmps163
  go_wp2_with (first | (go_at_call 187;refine H.out.mono ?_;rintro e w' ⟨rfl,rfl⟩) | (go_at_call 188;refine (Hroom.out _).mono ?_;rintro e w' ⟨rfl,rfl⟩))
  go_ret3;exact ⟨rfl,rfl⟩
 ·rw [decide_eq_true (by omega)] at hz
  have hx0:x ≠ 0:=by
   rintro rfl;simp at hz
  clear hg hq;by_cases hk0:k <= 0
  ·clear hx0
   go_enter Tryz.func163,Tryz.ntmps163
   go_wp2_with (first | (go_at_call 187;refine H.out.mono ?_;rintro e w' ⟨rfl,rfl⟩) | (go_at_call 188;refine (Hroom.out _).mono ?_;rintro e w' ⟨rfl,rfl⟩))
   go_ret3;exact ⟨rfl,rfl⟩
  ·have hx1:(x == 0)=false:=by simpa using hx0
   clear hx0;go_enter Tryz.func163,Tryz.ntmps163
   go_wp2_with (first | (go_at_call 187;refine H.out.mono ?_;rintro e w' ⟨rfl,rfl⟩) | (go_at_call 188;refine (Hroom.out _).mono ?_;rintro e w' ⟨rfl,rfl⟩))
   go_ret3;exact ⟨rfl,rfl⟩
end
open Go.RowKit
theorem vB (x:Int):-64 <= ext x /\ ext x <= 63:=by unfold ext;split <;> omega
theorem qRc:∀ (t:Fin 256) (j:Fin 9),(ext (t.val:Int) / 2 ^ min j.val 8=ext (t.val:Int) / 128) ↔ (-2 ^ j.val <= ext (t.val:Int) /\ ext (t.val:Int) < 2 ^ j.val):=by decide +kernel
theorem qHh {t r:Int} (h0:0 <= t) (h1:t <= 255):(ext t / 2 ^ min r.toNat 8 != ext t / 128)=!decide (-2 ^ r.toNat <= ext t /\ ext t < 2 ^ r.toNat):=by
 generalize r.toNat=j
 have e:(ext t / 2 ^ min j 8=ext t / 128) ↔ (-2 ^ j <= ext t /\ ext t < 2 ^ j):=by
  by_cases hj:j <= 8
  ·have:=qRc ⟨t.toNat,by omega⟩ ⟨j,by omega⟩
   dsimp only at this;rw [Int.toNat_of_nonneg h0] at this;exact this
  ·have h8:(256:Int) <= 2 ^ j:=by
      have:=yR (show 8 <= j by omega);rw [show (2:Int) ^ 8=256 from by decide] at this;exact this
   have hb:=vB t;rw [Nat.min_eq_right (by omega),show (2:Int) ^ 8=256 from by decide];generalize (2:Int) ^ j=q at *;omega
 by_cases h:(-2 ^ j <= ext t /\ ext t < 2 ^ j)
 ·rw [decide_eq_true h,e.2 h];simp
 ·rw [decide_eq_false h,Bool.not_false,bne_iff_ne]
  exact fun hh=>h (e.1 hh)
theorem qTx:∀ (x:Fin 128) (y:Fin 256),(ext (x.val:Int)=ext (y.val:Int) / 128) ↔ (((x.val:Int)=0 /\ (y.val:Int) % 128 < 64) ∨ ((x.val:Int)=127 /\ 64 <= (y.val:Int) % 128)):=by decide +kernel
theorem qOd {x y:Int} (h0:0 <= x) (h1:x < 128) (g0:0 <= y) (g1:y <= 255):(ext x=ext y / 128) ↔ ((x=0 /\ y % 128 < 64) ∨ (x=127 /\ 64 <= y % 128)):=by
 have:=qTx ⟨x.toNat,by omega⟩ ⟨y.toNat,by omega⟩;dsimp only at this;rw [Int.toNat_of_nonneg h0,Int.toNat_of_nonneg g0] at this;exact this
section
variable (ao:Option Addr) (n cap:Nat) (xs:List Int) (bits:Int) (w:World) (hr:Rd .u8 w ao n cap xs) (h1:1 <= bits) (h2:bits <= 64) (m k:Nat) (hm:(m:Int)=(bits + 6) / 7)
include hr h1 h2 hm
theorem qVh (hs:m <= xs.length /\ ∀ i,i < m -> 128 <= xs.getD i 0) :
    Calls Tryz.prog 227 #[.slice ao n cap,.int .i64 bits] w fun e w'=>e=.returned (.tuple #[.int .i64 0,.int .i64 0,.int .i64 1]) /\ w=w':=by
 have H:=hid (qHf ao n cap xs bits w hr h1 h2 m hm hs)
 clear hs hm
 go_enter Tryz.func227,Tryz.ntmps227
 go_wp2_with (go_at_call 187;refine H.out.mono ?_;rintro e w' ⟨rfl,rfl⟩)
 go_ret3
 exact ⟨rfl,rfl⟩
theorem qVi (hs:xs.length < m /\ ∀ i,i < xs.length -> 128 <= xs.getD i 0) :
    Calls Tryz.prog 227 #[.slice ao n cap,.int .i64 bits] w fun e w'=>e=.returned (.tuple #[.int .i64 0,.int .i64 0,.int .i64 2]) /\ w=w':=by
 have H:=hid (qHg ao n cap xs bits w hr h1 h2 m hm hs)
 clear hs hm
 go_enter Tryz.func227,Tryz.ntmps227
 go_wp2_with (go_at_call 187;refine H.out.mono ?_;rintro e w' ⟨rfl,rfl⟩)
 go_ret3
 exact ⟨rfl,rfl⟩
theorem qW3 (hs:Stop xs m k) (hg:qB1 xs bits k) :
    Calls Tryz.prog 227 #[.slice ao n cap,.int .i64 bits] w fun e w'=>e=.returned (.tuple #[.int .i64 (qAs (xs.take (k + 1))),.int .i64 (k + 1),.int .i64 0]) /\ w=w':=by
 have hb:Bs xs:=fun x hx=>bounds_u8 (hr.wf x hx)
 have hkm:=hs.most
 have hkn:=hs.lt
 have hlen:=hr.len
 have H:=hid (qBg ao n cap xs bits w hr h1 h2 m k hm hs)
 have hkb:7 * (k:Int) < bits:=by omega
 have hg':=qHd hs bits hkb
 have hbk:=hb.getD k
 have hby:=hb.getD (k - 1)
 obtain ⟨x,hxk⟩:∃ x,x=xs.getD k 0:=⟨_,rfl⟩
 obtain ⟨y,hyk⟩:∃ y,y=xs.getD (k - 1) 0:=⟨_,rfl⟩
 rw [<- hxk,<- hyk] at hg'
 rw [<- hxk] at hbk
 rw [<- hyk] at hby
 obtain ⟨r,hr1⟩:∃ r,r=bits - 7 * (k:Int) - 1:=⟨_,rfl⟩
 rw [<- hr1] at hg'
 have hz:=qHh (r:=r) hbk.1 hbk.2
 obtain ⟨b,off,rfl,hc⟩:=hr.at (by omega)
 have hck:=hc k (by omega)
 have hcy:0 < k -> w.cell? ⟨b,off + (k - 1),none⟩=some (.int .u8 y):=fun hk=>by rw [hyk];exact hc (k - 1) (by omega)
 rw [<- hxk] at hck
 have hr0:0 <= r:=by omega
 have hr64:r <= 64:=by omega
 have hk9:k <= 9:=by omega
 have hkn':k < n:=by omega
 have hcap:k <= cap:=by have:=hr.le;omega
 have hx128:x < 128:=by rw [hxk];exact hs.last
 have hred:=qOd hbk.1 hx128 hby.1 hby.2
 have hex:=vB x
 have hey:=vB y
 have Hroom:=hid (show ∀ w,Calls Tryz.prog 188 #[.int .i64 k,.int .i64 bits] w fun e w'=>e=.returned (.int .i64 (r + 1)) /\ w=w' from fun w=>by rw [hr1,show bits - 7 * (k:Int) - 1 + 1=bits - 7 * k from by omega];exact qCp k bits w (by omega) (by omega) (by omega) (by omega))
 have hval:wrap64 (qDj (IntKind.u64.wrap (ext x)) (xs.take k) % 18446744073709551616)=qAs (xs.take (k + 1)):=by
  rw [IntKind.wrap_u64];have e2:=qBf xs k hkn;rw [<- hxk] at e2;obtain ⟨g2,g3⟩:=hg.2;rw [e2,qFn] at g2 g3 ⊢;have h64:(2:Int) ^ (bits - 1).toNat <= 2 ^ 63:=yR (by omega);rw [show (2:Int) ^ 63=9223372036854775808 from by decide] at h64;rw [show xs.take k=low xs k from rfl,qDk];rw [Int.add_emod,Int.mul_emod,Int.emod_emod,<- Int.mul_emod,<- Int.add_emod];unfold wrap64;omega
 have Hval:=hid hval
 have hgood:=hg'.1 hg
 obtain ⟨gr,gz⟩:=hgood
 rw [decide_eq_true gz] at hz
 clear hc hlen hm hr1 hs hb hxk hyk hval hg' hg gz
 by_cases hk0:k <= 0
 ·clear gr hred hcy
  go_enter Tryz.func227,Tryz.ntmps227
  go_wp2_with (first | (go_at_call 187;refine H.out.mono ?_;rintro e w' ⟨rfl,rfl⟩) | (go_at_call 228;refine (vA _ _ (by omega) (by omega)).mono ?_;rintro e w' ⟨rfl,rfl⟩) | (go_at_call 188;refine (Hroom.out _).mono ?_;rintro e w' ⟨rfl,rfl⟩) | (go_at_call 189;refine (qCq _ 0 cap (xs.take 0) _ w (hr.upto (by omega)) (wrap_u64_nonneg _) (by rw [IntKind.wrap_u64];omega) (by omega)).mono ?_;rintro e w' ⟨rfl,rfl⟩))
  go_ret3;exact ⟨by rw [<- Hval.out,show k=0 from by omega];rfl,rfl⟩
 ·have hne:(ext x == ext y / 128)=false:=by
     rw [beq_eq_false_iff_ne];intro hh;rcases gr with g | ⟨g1,g2⟩
     ·omega
     ·rcases hred.1 hh with h | h
      ·exact g1 h
      ·exact g2 h
  have hcy':=hcy (by omega);clear gr hred hcy;go_enter Tryz.func227,Tryz.ntmps227
  go_wp2_with (first | (go_at_call 187;refine H.out.mono ?_;rintro e w' ⟨rfl,rfl⟩) | (go_at_call 228;refine (vA _ _ (by omega) (by omega)).mono ?_;rintro e w' ⟨rfl,rfl⟩) | (go_at_call 188;refine (Hroom.out _).mono ?_;rintro e w' ⟨rfl,rfl⟩) | (go_at_call 189;refine (qCq _ k cap (xs.take k) _ w (hr.upto (by omega)) (wrap_u64_nonneg _) (by rw [IntKind.wrap_u64];omega) (by omega)).mono ?_;rintro e w' ⟨rfl,rfl⟩))
  go_ret3;exact ⟨by rw [<- Hval.out];rfl,rfl⟩
theorem qWe (hs:Stop xs m k) (hg:¬ qB1 xs bits k) :
    Calls Tryz.prog 227 #[.slice ao n cap,.int .i64 bits] w fun e w'=>e=.returned (.tuple #[.int .i64 0,.int .i64 0,.int .i64 1]) /\ w=w':=by
 have hb:Bs xs:=fun x hx=>bounds_u8 (hr.wf x hx)
 have hkm:=hs.most
 have hkn:=hs.lt
 have hlen:=hr.len
 have H:=hid (qBg ao n cap xs bits w hr h1 h2 m k hm hs)
 have hkb:7 * (k:Int) < bits:=by omega
 have hg':=qHd hs bits hkb
 have hbk:=hb.getD k
 have hby:=hb.getD (k - 1)
 obtain ⟨x,hxk⟩:∃ x,x=xs.getD k 0:=⟨_,rfl⟩
 obtain ⟨y,hyk⟩:∃ y,y=xs.getD (k - 1) 0:=⟨_,rfl⟩
 rw [<- hxk,<- hyk] at hg'
 rw [<- hxk] at hbk
 rw [<- hyk] at hby
 obtain ⟨r,hr1⟩:∃ r,r=bits - 7 * (k:Int) - 1:=⟨_,rfl⟩
 rw [<- hr1] at hg'
 have hz:=qHh (r:=r) hbk.1 hbk.2
 obtain ⟨b,off,rfl,hc⟩:=hr.at (by omega)
 have hck:=hc k (by omega)
 have hcy:0 < k -> w.cell? ⟨b,off + (k - 1),none⟩=some (.int .u8 y):=fun hk=>by rw [hyk];exact hc (k - 1) (by omega)
 rw [<- hxk] at hck
 have hr0:0 <= r:=by omega
 have hr64:r <= 64:=by omega
 have hk9:k <= 9:=by omega
 have hkn':k < n:=by omega
 have hcap:k <= cap:=by have:=hr.le;omega
 have hx128:x < 128:=by rw [hxk];exact hs.last
 have hred:=qOd hbk.1 hx128 hby.1 hby.2
 have hex:=vB x
 have hey:=vB y
 have Hroom:=hid (show ∀ w,Calls Tryz.prog 188 #[.int .i64 k,.int .i64 bits] w fun e w'=>e=.returned (.int .i64 (r + 1)) /\ w=w' from fun w=>by rw [hr1,show bits - 7 * (k:Int) - 1 + 1=bits - 7 * k from by omega];exact qCp k bits w (by omega) (by omega) (by omega) (by omega))
 rw [hg'] at hg
 clear hc hlen hm hr1 hs hb hxk hyk hg'
 by_cases hk0:k <= 0
 ·have gz:¬ (-2 ^ r.toNat <= ext x /\ ext x < 2 ^ r.toNat):=fun gz=>hg ⟨.inl (by omega),gz⟩
  rw [decide_eq_false gz] at hz;clear hg hred hcy gz;go_enter Tryz.func227,Tryz.ntmps227
  go_wp2_with (first | (go_at_call 187;refine H.out.mono ?_;rintro e w' ⟨rfl,rfl⟩) | (go_at_call 228;refine (vA _ _ (by omega) (by omega)).mono ?_;rintro e w' ⟨rfl,rfl⟩) | (go_at_call 188;refine (Hroom.out _).mono ?_;rintro e w' ⟨rfl,rfl⟩) )
  go_ret3;exact ⟨rfl,rfl⟩
 ·have hcy':=hcy (by omega)
  clear hcy;by_cases hq:ext x=ext y / 128
  ·have hne:(ext x == ext y / 128)=true:=by rw [beq_iff_eq];exact hq
   clear hq hg hred hz;go_enter Tryz.func227,Tryz.ntmps227
   go_wp2_with (first | (go_at_call 187;refine H.out.mono ?_;rintro e w' ⟨rfl,rfl⟩) | (go_at_call 228;refine (vA _ _ (by omega) (by omega)).mono ?_;rintro e w' ⟨rfl,rfl⟩) | (go_at_call 188;refine (Hroom.out _).mono ?_;rintro e w' ⟨rfl,rfl⟩) )
   go_ret3;exact ⟨rfl,rfl⟩
  ·have hne:(ext x == ext y / 128)=false:=by rw [beq_eq_false_iff_ne];exact hq
   have gz:¬ (-2 ^ r.toNat <= ext x /\ ext x < 2 ^ r.toNat):=fun gz=>hg ⟨.inr ⟨fun h=>hq (hred.2 (.inl h)),fun h=>hq (hred.2 (.inr h))⟩,gz⟩
   rw [decide_eq_false gz] at hz;clear hq hg hred gz;go_enter Tryz.func227,Tryz.ntmps227
   go_wp2_with (first | (go_at_call 187;refine H.out.mono ?_;rintro e w' ⟨rfl,rfl⟩) | (go_at_call 228;refine (vA _ _ (by omega) (by omega)).mono ?_;rintro e w' ⟨rfl,rfl⟩) | (go_at_call 188;refine (Hroom.out _).mono ?_;rintro e w' ⟨rfl,rfl⟩) )
   go_ret3;exact ⟨rfl,rfl⟩
end
open Go.RowKit
theorem qEd {a b:ByteArray} (h:a.toList=b.toList):a=b:=by
 rw [ByteArray.toList_eq,ByteArray.toList_eq] at h;exact ByteArray.ext (Array.toList_inj.1 h)
theorem qDl (n:Int) (h0:-9223372036854775808 <= n) (h1:n <= 9223372036854775807):wrap64 n=n:=by unfold wrap64;omega
end Go.Proofs.YtbkofpljchkkaaaGreat
