/- Words: KA. -/
import Derived.WalkKit
import Derived.OpenShut
import Derived.Laws.AppendOwnNone
import Derived.Deep.Draws
import Derived.BigQuiet
import Derived.Deep.QuietTactic
import Derived.Deep.AppendLies
import Derived.Laws.OwnMore
import Derived.StillTail
namespace Go.Proofs.YtbkofpljchkkaaaGreat
open Go.RowKit
abbrev qW5:=@Nat.succ_pos
abbrev qW6:=@List.getElem?_eq_getElem
abbrev qW7:=@List.length_append
abbrev qW8:=@Nat.le_refl
abbrev qW9:=@List.take_of_length_le
abbrev qXa:=@List.mem_of_getElem?
abbrev qXb:=@List.all_eq_true
abbrev qXc:=@World.block_lt_of_cell?
abbrev qXd:=@Nat.add_zero
abbrev qXe:=@List.append_assoc
abbrev qXf:=@Nat.zero_le
abbrev qXg:=@List.length_cons
abbrev qXh:=@Below.refl
abbrev qXi:=@Bool.and_eq_true
abbrev qXj:=@List.setIfInBounds_toArray
abbrev qXk:=@Nat.le_trans
abbrev qXl:=@Nat.mul_le_mul_right
abbrev qXm:=@List.drop_succ_cons
abbrev qXn:=@Array.getD_eq_getD_getElem?
abbrev qXo:=@List.set_cons_zero
abbrev qXp:=@List.set_cons_succ
abbrev qXq:=@List.length_nil
abbrev qXr:=@Nat.lt_of_lt_of_le
abbrev qXs:=@List.mem_of_mem_take
abbrev qXt:=@List.getElem?_eq_some_iff
abbrev qXu:=@List.length_take
abbrev qXv:=@List.drop_zero
abbrev qXw:=@Array.getElem?_eq_some_iff
abbrev qXx:=@List.getD_cons_zero
abbrev qXy:=@List.take_add_one
theorem hid {p:Prop} (h:p):Hid p:=h
structure Rd (k:IntKind) (w:World) (ao:Option Addr) (n cap:Nat) (xs:List Int):Prop where
 len:xs.length=n
 le:n <= cap
 max:cap <= maxLen
 nil:ao=none -> cap=0
 cell:∀ ad,ao=some ad -> ∀ i,i < n -> w.cell? (ad.add i)=some (.int k (xs.getD i 0))
 wf:∀ x ∈ xs,(Lit.int k x).wf=true
section
variable {k:IntKind} {w w':World} {ao:Option Addr} {n cap:Nat} {xs:List Int}
theorem Rd.below (h:Rd k w ao n cap xs) (hb:Below w.heap.size w w'):Rd k w' ao n cap xs :=
 ⟨h.len,h.le,h.max,h.nil,fun ad ha i hi=>by
  have hc:=h.cell ad ha i hi;have hlt:=qXc w _ hc
  exact (hb.cell hlt).trans hc,h.wf⟩
theorem Rd.empty (w:World) (k:IntKind):Rd k w none 0 0 [] :=
 ⟨rfl,qW8 _,qXf _,fun _=>rfl,(fun _ h=>by cases h),(fun _ h=>by cases h)⟩
theorem Rd.at (h:Rd k w ao n cap xs) (hp:0 < n):∃ b off,ao=some ⟨b,off,none⟩ /\ ∀ i,i < n -> w.cell? ⟨b,off + i,none⟩=some (.int k (xs.getD i 0)):=by
 cases ao with
 | none=>have:=h.nil rfl;have:=h.le;omega
 | some ad =>
   have hl:=h.len;subst hl;obtain ⟨b,off,rfl,hc⟩:=ints_at (h.cell ad rfl) hp;exact ⟨b,off,rfl,hc⟩
theorem Rd.upto (h:Rd k w ao n cap xs) {i:Nat} (hi:i <= n):Rd k w ao i cap (xs.take i):=by
 have hl:=h.len;have hle:=h.le;refine ⟨by simp;omega,by omega,h.max,h.nil,fun ad ha j hj=>?_,fun x hx=>h.wf x (qXs hx)⟩;rw [h.cell ad ha j (by omega)];simp [List.getD,hj]
theorem Rd.news (h:Rd k w ao n cap xs) {ad:Addr} (ha:ao=some ad):∀ j u,(xs.map (Value.int k))[j]?=some u -> w.cell? (ad.add j)=some u:=by
 intro j u hu
 have hj:j < xs.length:=by
  have:=(qXt.1 hu).1;simpa using this
 rw [h.cell ad ha j (by rw [<- h.len];exact hj)];rw [<- hu];simp [List.getD,hj]
end
structure Own (E:TypeId) (k:IntKind) (base:Nat) (w:World) (v:Value) (xs:List Int):Prop where
 row:w.ownsRow base E 1 v xs.length (xs.map (Value.int k))
 wf:∀ x ∈ xs,(Lit.int k x).wf=true
section
variable {E:TypeId} {k:IntKind} {base B:Nat} {w w':World} {v:Value} {xs:List Int}
theorem Own.below (h:Own E k base w v xs) (hb:Below B w w') (hB:w.heap.size <= B):Own E k base w' v xs:=by
 refine ⟨h.row.kept (row:=none) ⟨hb.os,hb.tape,hb.output,hb.size,fun k hk _=>hb.block k (by omega)⟩ ?_,h.wf⟩
 cases hv:v.ownBlock <;> simp
theorem Own.lift (h:Own E k base w v xs) {base':Nat} (hb:base' <= base):Own E k base' w v xs:=by
 refine ⟨⟨h.row.1,?_⟩,h.wf⟩;rcases h.row.2 with h2 | ⟨g,cap,cur,hv,hg,r⟩
 ·exact .inl h2
 ·exact .inr ⟨g,cap,cur,hv,by omega,r⟩
theorem Own.rd (h:Own E k base w v xs):∃ ao cap,v=.slice ao xs.length cap /\ Rd k w ao xs.length cap xs:=by
 rcases h.row.2 with ⟨rfl,hn⟩ | ⟨g,cap,cur,rfl,hb,hg,hle,hmax,hsz,htake⟩
 ·have hx:xs=[]:=List.eq_nil_of_length_eq_zero hn
  subst hx;exact ⟨none,0,rfl,Rd.empty w k⟩
 ·refine ⟨some ⟨g,0,none⟩,cap,rfl,rfl,hle,hmax,(fun hh=>by cases hh),?_,h.wf⟩
  intro ad ha i hi
  cases ha
  have hc:=h.row.cells (g:=g) rfl i (.int k (xs.getD i 0)) (by simp [List.getD,hi]);exact hc
theorem Own.nil (E:TypeId) (k:IntKind) (base:Nat) (w:World):Own E k base w (.slice none 0 0) [] :=
 ⟨World.ownsRow_nil w base E 1,fun _ h=>by cases h⟩
theorem Own.lt (h:Own E k base w v xs):∀ b,v.ownBlock=some b -> base <= b /\ b < w.heap.size:=h.row.lt
end
theorem qA {P:Program} {w:World} {ops:Array Oper} {rest:List Oper} {o:Oper} {a:Act} {Q:Exit -> Act -> World -> Prop} (hgd:o.guard=none) (s x:Operand) (t:TypeId)
    (ho:o.op=.call { callee:=.builtin .append,args:=#[s,x],argTypes:=#[t,t] })
    (E:TypeId) (k:IntKind) (base:Nat) (bytes:Nat) (ht:P.underlying t=some (.slice E)) (hi:(P.info? E).map (fun i=>(i.zero,i.size,i.bytes))=some (some (.int k 0),1,bytes))
    (v:Value) (xs:List Int) (hs:a.eval s=v) (hown:Own E k base w v xs)
    (ao:Option Addr) (n cap:Nat) (ys:List Int) (hx:a.eval x=.slice ao n cap) (hr:Rd k w ao n cap ys)
    (h63:xs.length + n <= 4611686018427387904) (hbytes:(xs.length + n) * bytes <= 140737488355328) (hbase:base <= w.heap.size)
    (h:∀ v' w',Own E k base w' v' (xs ++ ys) -> Below base w w' -> (∀ b,v.ownBlock ≠ some b -> b < w.heap.size -> w'.heap[b]?=w.heap[b]?) -> wpList P ops Q rest (a.put o.dst v') w'):wpList P ops Q (o :: rest) a w:=by
 obtain ⟨i,hi0,hz,hsz,hby⟩:=info_parts hi
 cases ao with
 | none =>
   have hc:=hr.nil rfl;have hn:n=0:=by have:=hr.le;omega
   have hy:ys=[]:=List.eq_nil_of_length_eq_zero (by rw [hr.len];exact hn);subst hc hn hy;refine wpList_append_own_none hgd s x t ho base E i 1 ht hi0 v xs.length _ hs hown.row hx ?_;refine h v w (by simpa using hown) (qXh _ _) (fun _ _ _=>rfl)
 | some ad =>
   refine wpList_append_own w hgd s x t ho base E i (.int k 0) 1 bytes ht hi0 hz hsz hby rfl (by decide) v xs.length _ hs hown.row ad n cap (ys.map (Value.int k)) hx (by simp [hr.len]) (hr.news rfl) (ints_oneCell _ _) (by unfold maxLen;omega) hbytes hbase ?_;intro v' w' h1 h2 _;refine h v' w' ⟨?_,?_⟩ ((qXh _ _).grown h2 hbase (fun b hb=>(hown.lt b hb).1)) (fun b hb hlt=>h2.block b hlt (fun e=>hb e.symm))
   ·rw [List.map_append]
    simpa [hr.len] using h1
   ·intro z hz'
    rcases List.mem_append.1 hz' with hz' | hz'
    ·exact hown.wf z hz'
    ·exact hr.wf z hz'
theorem Rd.built (w:World) (k:IntKind) (E:TypeId) (x:Int) (h:(Lit.int k x).wf=true):Rd k (w.alloc (.cells #[.int k x] E)) (some ⟨w.heap.size,0,none⟩) 1 1 [x]:=by
 refine ⟨rfl,qW8 _,by unfold maxLen;omega,(fun h=>by cases h),?_,?_⟩
 ·intro ad ha i hi
  cases ha
  obtain rfl:i=0:=by omega
  simp [Addr.add,World.cell?_alloc_at]
 ·intro y hy
  simp at hy;subst hy;exact h
theorem Own.alloc {E:TypeId} {k:IntKind} {base:Nat} {w:World} {v:Value} {xs:List Int} (h:Own E k base w v xs) (o:Obj):Own E k base (w.alloc o) v xs:=⟨h.row.alloc o,h.wf⟩
theorem uK {p:Int -> Prop} (h:∀ x:Fin 256,p (x.val:Int)) (x:Int) (h0:0 <= x) (h1:x <= 255):p x:=by
 have:=h ⟨x.toNat,by omega⟩;simpa [Int.toNat_of_nonneg h0] using this
theorem qUp (x:Int) (h0:0 <= x) (h1:x <= 255):bits BinOp.or IntKind.u8 x 128=x % 128 + 128 :=
 uK (p:=fun x=>bits BinOp.or IntKind.u8 x 128=x % 128 + 128) (by decide +kernel) x h0 h1
theorem qUq (x:Int) (h0:0 <= x) (h1:x <= 255):bits BinOp.and IntKind.u8 x 127=x % 128 :=
 uK (p:=fun x=>bits BinOp.and IntKind.u8 x 127=x % 128) (by decide +kernel) x h0 h1
theorem qUr (x:Int) (h0:0 <= x) (h1:x <= 255):bits BinOp.and IntKind.u8 x 128=x / 128 * 128 :=
 uK (p:=fun x=>bits BinOp.and IntKind.u8 x 128=x / 128 * 128) (by decide +kernel) x h0 h1
theorem vD (k:IntKind) (i:Nat) (hi:i < k.bits) (hw:∀ n:Int,0 <= n -> n < 2 ^ i -> k.wrap n=n) (x:Int):bits BinOp.and k x (2 ^ i - 1)=x % 2 ^ i:=by
 unfold bits
 have h2:(BitVec.ofInt k.bits (2 ^ i - 1)).toNat=2 ^ i - 1:=by
  have hlt:(2:Nat) ^ i < 2 ^ k.bits:=Nat.pow_lt_pow_right (by decide) hi;have hp:0 < (2:Nat) ^ i:=Nat.pow_pos (by decide);rw [show ((2:Int) ^ i - 1)=(((2 ^ i - 1:Nat)):Int) from by rw [Int.natCast_sub (by omega)];simp];rw [BitVec.ofInt_natCast,BitVec.toNat_ofNat];exact Nat.mod_eq_of_lt (by omega)
 simp only [BitVec.toNat_and,h2,Nat.and_two_pow_sub_one_eq_mod,BitVec.toNat_ofInt]
 have hd:(2:Int) ^ i ∣ (2:Int) ^ k.bits:=⟨2 ^ (k.bits - i),by rw [<- Int.pow_add];congr 1;omega⟩
 have hp:(0:Int) < 2 ^ i:=Int.pow_pos (by decide)
 have he:(((x % ((2 ^ k.bits:Nat):Int)).toNat % 2 ^ i:Nat):Int)=x % 2 ^ i:=by
  have h0:0 <= x % ((2 ^ k.bits:Nat):Int):=Int.emod_nonneg _ (by have:0 < 2 ^ k.bits:=Nat.pow_pos (by decide);omega);rw [Int.natCast_emod,Int.toNat_of_nonneg h0];simp only [Int.natCast_pow,Int.cast_ofNat_Int];exact Int.emod_emod_of_dvd _ hd
 rw [he];exact hw _ (Int.emod_nonneg _ (by omega)) (Int.emod_lt_of_pos _ hp)
theorem qDy (x:Int):bits BinOp.and IntKind.i64 x 127=x % 128 :=
 vD .i64 7 (by decide) (fun n h0 h1=>by
  have:(2:Int)^7=128:=by decide
  exact IntWalk.i64_in n (by omega)) x
theorem qEl (k:IntKind) (i:Nat) (x y:Int) (hx:0 <= x) (hy:0 <= y) (hyi:y < 2 ^ i) (hxi:x % 2 ^ i=0) (hxk:x < 2 ^ k.bits) (hi:i <= k.bits) (hw:k.wrap (x + y)=x + y):bits BinOp.or k x y=x + y:=by
 obtain ⟨x,rfl⟩:=Int.eq_ofNat_of_zero_le hx;obtain ⟨y,rfl⟩:=Int.eq_ofNat_of_zero_le hy;have hxk':x < 2 ^ k.bits:=by exact_mod_cast hxk
 have hyi':y < 2 ^ i:=by exact_mod_cast hyi
 have hxi':x % 2 ^ i=0:=by exact_mod_cast hxi
 have hyk:y < 2 ^ k.bits:=qXr hyi' (Nat.pow_le_pow_right (by decide) hi);unfold bits
 have ho:(BitVec.ofInt k.bits (x:Int) ||| BitVec.ofInt k.bits (y:Int)).toNat=x + y:=by
  rw [BitVec.toNat_or,BitVec.ofInt_natCast,BitVec.ofInt_natCast,BitVec.toNat_ofNat,BitVec.toNat_ofNat,Nat.mod_eq_of_lt hxk',Nat.mod_eq_of_lt hyk];obtain ⟨q,rfl⟩:=Nat.dvd_of_mod_eq_zero hxi';rw [Nat.mul_comm,<- Nat.shiftLeft_eq];exact (Nat.shiftLeft_add_eq_or_of_lt hyi' q).symm
 simp only [ho];rw [Int.natCast_add];exact hw
theorem yR {a b:Nat} (h:a <= b):(2:Int) ^ a <= 2 ^ b:=by
 have h1:((2 ^ a:Nat):Int) <= ((2 ^ b:Nat):Int):=Int.ofNat_le.2 (Nat.pow_le_pow_right (by decide) h);rw [Int.natCast_pow,Int.natCast_pow] at h1;exact h1
theorem xP {P:Program} {w:World} {ao:Option Addr} {n cap:Nat} {xs:List Int} (hr:Rd .u8 w ao n cap xs) (src dst e:TypeId) (hs:P.underlying src=some (.slice e)) (he:P.underlying e=some (.int .u8)) (hd:P.underlying dst=some .string) :
    (convert src dst (.slice ao n cap)).run P w=.ok (.string (strOfNums xs)) w:=by
 cases ao with
 | none =>
   have hc:=hr.nil rfl;have hn:n=0:=by have:=hr.le;omega
   have hy:xs=[]:=List.eq_nil_of_length_eq_zero (by rw [hr.len];exact hn);subst hy;exact run_convert_bytes_nil w src e hs he n cap dst hd
 | some ad =>
   have hl:(loadCells ad n).run P w=.ok (xs.map (Value.int .u8)).toArray w:=by
    have:=run_loadCells_list (P:=P) w ad (xs.map (Value.int .u8)) (hr.news rfl);simpa [hr.len] using this
   rw [run_convert_bytes_string w src dst e _ n cap hs he hd,run_bytesToString w _ n cap xs hl,foldl_push_bytes];simp [strOfNums,ByteArray.empty,ByteArray.emptyWithCapacity];rfl
theorem qAt:∀ {xs ys:List Int},(∀ x ∈ xs,0 <= x /\ x <= 255) -> (∀ y ∈ ys,0 <= y /\ y <= 255) -> strOfNums xs=strOfNums ys -> xs=ys:=by
 intro xs ys hx hy h;have h1:(strOfNums xs).data.toList=(strOfNums ys).data.toList:=by rw [h]
 rw [strOfNums_data,strOfNums_data] at h1;clear h
 induction xs generalizing ys with
 | nil=>cases ys <;> simp_all
 | cons x r ih =>
   cases ys with
   | nil=>simp at h1
   | cons y q =>
     simp only [List.map_cons,List.cons.injEq] at h1
     have e:x=y:=by
      have a:=hx x (by simp);have b:=hy y (by simp);have:=congrArg UInt8.toNat h1.1;simp at this;omega
     rw [e,ih (fun z hz=>hx z (by simp [hz])) (fun z hz=>hy z (by simp [hz])) h1.2]
theorem xQ {P:Program} {a:Act} {w:World} {Q:Exit -> Act -> World -> Prop} {c rest:Code} (l:Nat) (J:Act -> World -> Prop) (μ:Act -> World -> Nat) (hf:findLabel c l=some (.seq .skip rest))
    (first:∀ Q',(∀ a w,J a w -> rest.wp P Q' a w) -> c.wp P Q' a w)
    (pass:∀ a w,J a w -> rest.wp P (Exit.jump l (fun a' w'=>J a' w' /\ μ a' w' < μ a w) Q) a w):(Code.scope c).wp P Q a w:=by
 refine wp_scope_jumps l J μ hf (first _ fun a w hJ=>?_) (fun a w hJ=>wp_seq (wp_skip (pass a w hJ)))
 refine wp_mono (pass a w hJ) ?_
 intro e a' w' h
 cases e <;> simp_all [Exit.jump]
theorem Rd.cap63 {k:IntKind} {w:World} {ao:Option Addr} {n cap:Nat} {xs:List Int} (h:Rd k w ao n cap xs):cap <= 9223372036854775807:=by have:=h.max;unfold maxLen at this;omega
theorem Rd.nought {k:IntKind} {w:World} {b off:Nat}:Rd k w (some ⟨b,off,none⟩) 0 0 []:=⟨rfl,qW8 _,qXf _,(fun h=>by cases h),(fun _ _ i hi=>by omega),(fun _ h=>by cases h)⟩
theorem Rd.built2 (w:World) (k:IntKind) (E:TypeId) (x y:Int) (h:(Lit.int k x).wf=true) (h':(Lit.int k y).wf=true):Rd k (w.alloc (.cells #[.int k x,.int k y] E)) (some ⟨w.heap.size,0,none⟩) 2 2 [x,y]:=by
 refine ⟨rfl,qW8 _,by unfold maxLen;omega,(fun h=>by cases h),?_,?_⟩
 ·intro ad ha i hi
  cases ha
  rcases (show i=0 ∨ i=1 from by omega) with rfl | rfl
  ·simp [Addr.add,World.cell?_alloc_at]
  ·simp [Addr.add,World.cell?_alloc_at]
 ·intro z hz
  simp at hz;rcases hz with rfl | rfl
  ·exact h
  ·exact h'
def qEm (ao:Option Addr) (l cap:Nat) (s:Nat:=1):Option Addr:=if cap=l then ao else ao.map (·.add (l * s))
theorem vR {P:Program} (t:TypeId) (ht:P.underlying t=some (.slice (P.elem t))) {s:Nat} (hs:∀ w,(sizeOf (P.elem t)).run P w=.ok s w) (ao:Option Addr) (n cap:Nat) (l:Int) (l':Nat) (hl:l=l') (h1:l' <= n) (w:World) :
    (Instr.sliceAt t (.slice ao n cap) (some (.int .i64 l)) none none).run P w=.ok (.slice (qEm ao l' cap s) (n - l') (cap - l')) w:=by
 subst hl
 rw [run_sliceAt_slice w t _ _ _ _ ht,run_slice_l w t ao n cap ht .i64 _ (by omega) (by omega),hs]
 simp [sliced,qEm]
theorem qFx {P:Program} (t:TypeId) (ht:P.underlying t=some (.slice (P.elem t))) {s:Nat} (hs:∀ w,(sizeOf (P.elem t)).run P w=.ok s w) (ao:Option Addr) (n cap:Nat) (h:Int) (h':Nat) (hh:h=h') (h2:h' <= cap) (w:World) :
    (Instr.sliceAt t (.slice ao n cap) none (some (.int .i64 h)) none).run P w=.ok (.slice ao h' cap) w:=by
 subst hh
 rw [run_sliceAt_slice w t _ _ _ _ ht,run_slice_h w t ao n cap ht .i64 _ (by omega) (by omega),hs]
 by_cases e:cap=0
 ·simp [sliced,e]
 ·simp [sliced,e]
  cases ao <;> simp [Addr.add]
theorem Rd.cut {k:IntKind} {w:World} {ao:Option Addr} {n cap:Nat} {xs:List Int} (h:Rd k w ao n cap xs) (l h':Nat) (h1:l <= h') (h2:h' <= n):Rd k w (qEm ao l cap) (h' - l) (cap - l) ((xs.take h').drop l):=by
 have hl:=h.len;have hle:=h.le;have hm:=h.max;unfold qEm;by_cases e:cap=l
 ·rw [if_pos e]
  have e0:h'=l:=by omega
  subst e0;refine ⟨by simp,by omega,by omega,(fun _=>by omega),(fun _ _ i hi=>by omega),fun x hx=>?_⟩;rw [List.drop_eq_nil_of_le (by simp;omega)] at hx
  cases hx
 ·rw [if_neg e]
  refine ⟨by simp;omega,by omega,by omega,(fun hn=>?_),fun ad ha j hj=>?_,fun x hx=>h.wf x (qXs (List.mem_of_mem_drop hx))⟩
  ·cases ao with
   | none=>have:=h.nil rfl;omega
   | some ad=>simp at hn
  ·cases ao with
   | none=>simp at ha
   | some ad0 =>
     simp only [Option.map_some,Option.some.injEq] at ha;subst ha;have:=h.cell _ rfl (l + j) (by omega);have e2:(ad0.add (l * 1)).add j=ad0.add (l + j):=by rw [Addr.add_add,Nat.mul_one]
     rw [e2,this];have:j < h' - l:=hj;simp [List.getD,show l + j < h' by omega]
theorem Own.set {E:TypeId} {k:IntKind} {base:Nat} {w:World} {g n cap:Nat} {xs:List Int} (h:Own E k base w (.slice (some ⟨g,0,none⟩) n cap) xs) (i:Nat) (x:Int) (hx:(Lit.int k x).wf=true) :
    Own E k base (w.setCell ⟨g,i,none⟩ (.int k x)) (.slice (some ⟨g,0,none⟩) n cap) (xs.set i x):=by
 have hn:n=xs.length:=by
  rcases h.row.2 with ⟨h',_⟩ | ⟨g',cap',cur,h',_⟩
  ·simp at h'
  ·simp at h';exact h'.2.1
 subst hn
 refine ⟨?_,fun y hy=>?_⟩
 ·have:=(h.row.stored i (.int k x)).1
  rw [<- List.map_set] at this
  rwa [List.length_set]
 ·rcases List.mem_or_eq_of_mem_set hy with hy | rfl
  ·exact h.wf y hy
  ·exact hx
theorem Own.aside {E:TypeId} {k:IntKind} {base:Nat} {w:World} {v:Value} {xs:List Int} (h:Own E k base w v xs) {p:Addr} (hp:∀ b,v.ownBlock=some b -> b ≠ p.block) (u:Value):Own E k base (w.setCell p u) v xs:=by
 refine ⟨h.row.kept (row:=some p.block) ⟨rfl,rfl,rfl,by simp,fun i _ hi=>Below.heap_setCell w p u i (fun e=>hi (by rw [e]))⟩ ?_,h.wf⟩
 cases hv:v.ownBlock with
 | none=>exact .inl rfl
 | some b=>exact .inr (fun e=>hp b hv (by simpa using e))
theorem Own.drew {E:TypeId} {k:IntKind} {base:Nat} {w:World} {v:Value} {xs:List Int} (h:Own E k base w v xs):Own E k base w.drew v xs:=⟨h.row,h.wf⟩
theorem Own.cell {E:TypeId} {k:IntKind} {base:Nat} {w:World} {g n cap:Nat} {xs:List Int} (h:Own E k base w (.slice (some ⟨g,0,none⟩) n cap) xs) (i:Nat) (hi:i < xs.length) :
    w.cell? ⟨g,i,none⟩=some (.int k (xs.getD i 0)) /\ w.frozen? ⟨g,i,none⟩=false /\ base <= g /\ g < w.heap.size /\ n=xs.length:=by
 have hn:n=xs.length:=by
  rcases h.row.2 with ⟨h',_⟩ | ⟨g',cap',cur,h',_⟩
  ·simp at h'
  ·simp at h';exact h'.2.1
 subst hn
 refine ⟨?_,h.row.frozenAt i,(h.lt g rfl).1,(h.lt g rfl).2,rfl⟩
 rw [h.row.cellAt i (by omega)]
 simp [List.getD,hi]
theorem Rd.mem {k:IntKind} {w:World} {ao:Option Addr} {n cap:Nat} {xs:List Int} (h:Rd k w ao n cap xs) {i:Nat} (hi:i < n):xs.getD i 0 ∈ xs:=by
 have:i < xs.length:=by rw [h.len];exact hi
 simp [List.getD,this]
theorem qW (B:Nat) (w:World) (n:Nat):Below B w (w.drewN n):=⟨rfl,rfl,rfl,qW8 _,fun _ _=>rfl⟩
theorem Calls.quiet_eq {P:Program} {f:FuncId} {args:Array Value} {w:World} {n:Nat} {v:Value}
    (h:Calls P f args (w.drewN n) fun e w'=>e=.returned v /\ w.drewN n=w'):Calls P f args (w.drewN n) fun e w''=>e=.returned v /\ ∃ m,w''=w.drewN m :=
 h.mono fun _ _ ⟨he,hm⟩=>⟨he,n,hm.symm⟩
open Go.RowKit
structure Bw (W:World) where
 w:World
 h:Below W.heap.size W w
instance (W:World):Nonempty (Bw W):=⟨⟨W,qXh _ _⟩⟩
theorem Bw.cell {W:World} (x:Bw W) (b o:Nat) (h:b < W.heap.size):x.w.cell? ⟨b,o,none⟩=W.cell? ⟨b,o,none⟩:=x.h.cell (p:=⟨b,o,none⟩) h
theorem Bw.frozen {W:World} (x:Bw W) (b o:Nat) (h:b < W.heap.size):x.w.frozen? ⟨b,o,none⟩=W.frozen? ⟨b,o,none⟩:=x.h.frozen (p:=⟨b,o,none⟩) h
theorem qK {P:Program} {id:Nat} {Q:Exit -> Act -> World -> Prop} {a:Act} {W:World} {l:List Oper} (hm:P.follows .mixedOrders=true) (hB:Region.lexB .any l.toArray=true)
    (h:wpQuiet P l.toArray (fun w'=>∃ x:Bw W,w'=x.w) (fun a'=>∀ w',(∃ x:Bw W,w'=x.w) -> Q .normal a' w') l a):(Code.region id l.toArray true).wp P Q a W :=
 wp_region_quiet (C:=fun w'=>∃ x:Bw W,w'=x.w) hm hB ⟨⟨_,(qXh _ _).drew⟩,rfl⟩ (by simpa using h)
theorem Calls.bw {P:Program} {f:FuncId} {args:Array Value} {W:World} {x:Bw W} {v:Value}
    (h:Calls P f args x.w fun e w'=>e=.returned v /\ Below x.w.heap.size x.w w'):Calls P f args x.w fun e w''=>e=.returned v /\ ∃ y:Bw W,w''=y.w :=
 h.mono fun _ _ ⟨he,hb⟩=>⟨he,⟨_,x.h.trans (hb.mono x.h.size)⟩,rfl⟩
theorem qEn {W w1:World} (hb:Below W.heap.size W w1):(∀ b o,b < W.heap.size -> w1.cell? ⟨b,o,none⟩=W.cell? ⟨b,o,none⟩) /\ (∀ b o,b < W.heap.size -> w1.frozen? ⟨b,o,none⟩=W.frozen? ⟨b,o,none⟩) :=
 ⟨fun b o h=>hb.cell (p:=⟨b,o,none⟩) h,fun b o h=>hb.frozen (p:=⟨b,o,none⟩) h⟩
theorem Bl.alloc {a w:World} (h:Below a.heap.size a w) (o:Obj):Below a.heap.size a (w.alloc o):=Below.alloc h h.size o
theorem Bl.set {a w:World} (h:Below a.heap.size a w) {p:Addr} (hp:a.heap.size <= p.block) (u:Value):Below a.heap.size a (w.setCell p u):=Below.setCell h hp u
theorem Bl.refl (w:World):Below w.heap.size w w:=qXh _ _
theorem Bl.step {w w1 w2:World} (h:Below w.heap.size w w1) (h':Below w1.heap.size w1 w2):Below w.heap.size w w2:=h.trans (h'.mono h.size)
structure Pair (w:World) (p:Nat) (x y:Value):Prop where
 c0:w.cell? ⟨p,0,none⟩=some x
 c1:w.cell? ⟨p,1,none⟩=some y
 f0:w.frozen? ⟨p,0,none⟩=false
 f1:w.frozen? ⟨p,1,none⟩=false
theorem Pair.new (w:World) (x y:Value) (T:TypeId) {p:Nat} (hp:p=w.heap.size):Pair (w.alloc (.cells #[x,y] T)) p x y:=by
 subst hp;constructor <;> go_simp
theorem Pair.below {w w1:World} {p:Nat} {x y:Value} (h:Pair w p x y) (hb:Below w.heap.size w w1):Pair w1 p x y:=by
 have hlt:p < w.heap.size:=qXc w _ h.c0;exact ⟨(hb.cell (p:=⟨p,0,none⟩) hlt).trans h.c0,(hb.cell (p:=⟨p,1,none⟩) hlt).trans h.c1,(hb.frozen (p:=⟨p,0,none⟩) hlt).trans h.f0,(hb.frozen (p:=⟨p,1,none⟩) hlt).trans h.f1⟩
theorem Pair.alloc {w:World} {p:Nat} {x y:Value} (h:Pair w p x y) (o:Obj):Pair (w.alloc o) p x y:=h.below (Bl.alloc (Bl.refl _) _)
theorem Pair.set2 {w:World} {p:Nat} {x y:Value} (h:Pair w p x y) (x' y':Value):Pair ((w.setCell ⟨p,0,none⟩ x').setCell ⟨p,1,none⟩ y') p x' y':=by
 have c0:=h.c0;have c1:=h.c1;have f0:=h.f0;have f1:=h.f1;constructor <;> go_simp
open Go.RowKit
structure Trio (w w1:World) (x0 y0 x1 y1 x2 y2:Value):Prop where
 a:Pair w1 w.heap.size x0 y0
 b:Pair w1 (w.heap.size + 1) x1 y1
 r:Pair w1 (w.heap.size + 1 + 1) x2 y2
 bl:Below w.heap.size w w1
section
variable {w w1 w2:World} {x0 y0 x1 y1 x2 y2:Value} {T:TypeId}
theorem Trio.step (h:Trio w w1 x0 y0 x1 y1 x2 y2) (hb:Below w1.heap.size w1 w2):Trio w w2 x0 y0 x1 y1 x2 y2:=⟨h.a.below hb,h.b.below hb,h.r.below hb,Bl.step h.bl hb⟩
theorem Trio.facts (h:Trio w w1 x0 y0 x1 y1 x2 y2) :
    (w1.cell? ⟨w.heap.size,0,none⟩=some x0 /\ w1.cell? ⟨w.heap.size,1,none⟩=some y0) /\ (w1.cell? ⟨w.heap.size + 1,0,none⟩=some x1 /\ w1.cell? ⟨w.heap.size + 1,1,none⟩=some y1) /\
    (w1.cell? ⟨w.heap.size + 1 + 1,0,none⟩=some x2 /\ w1.cell? ⟨w.heap.size + 1 + 1,1,none⟩=some y2 /\ w1.frozen? ⟨w.heap.size + 1 + 1,0,none⟩=false /\ w1.frozen? ⟨w.heap.size + 1 + 1,1,none⟩=false) :=
 ⟨⟨h.a.c0,h.a.c1⟩,⟨h.b.c0,h.b.c1⟩,h.r.c0,h.r.c1,h.r.f0,h.r.f1⟩
end
structure Twin (w w1:World) (x0 y0 x1 y1:Value):Prop where
 a:Pair w1 w.heap.size x0 y0
 r:Pair w1 (w.heap.size + 1) x1 y1
 bl:Below w.heap.size w w1
section
variable {w w1 w2:World} {x0 y0 x1 y1:Value} {T:TypeId}
theorem Twin.step (h:Twin w w1 x0 y0 x1 y1) (hb:Below w1.heap.size w1 w2):Twin w w2 x0 y0 x1 y1:=⟨h.a.below hb,h.r.below hb,Bl.step h.bl hb⟩
theorem Twin.facts (h:Twin w w1 x0 y0 x1 y1) :
    (w1.cell? ⟨w.heap.size,0,none⟩=some x0 /\ w1.cell? ⟨w.heap.size,1,none⟩=some y0) /\
    (w1.cell? ⟨w.heap.size + 1,0,none⟩=some x1 /\ w1.cell? ⟨w.heap.size + 1,1,none⟩=some y1 /\ w1.frozen? ⟨w.heap.size + 1,0,none⟩=false /\ w1.frozen? ⟨w.heap.size + 1,1,none⟩=false) :=
 ⟨⟨h.a.c0,h.a.c1⟩,h.r.c0,h.r.c1,h.r.f0,h.r.f1⟩
end
structure Solo (w w1:World) (x1 y1:Value):Prop where
 r:Pair w1 w.heap.size x1 y1
 bl:Below w.heap.size w w1
section
variable {w w1 w2:World} {x1 y1:Value} {T:TypeId}
theorem Solo.facts (h:Solo w w1 x1 y1) :
    w1.cell? ⟨w.heap.size,0,none⟩=some x1 /\ w1.cell? ⟨w.heap.size,1,none⟩=some y1 /\ w1.frozen? ⟨w.heap.size,0,none⟩=false /\ w1.frozen? ⟨w.heap.size,1,none⟩=false :=
 ⟨h.r.c0,h.r.c1,h.r.f0,h.r.f1⟩
end
open Go.RowKit
structure OwnC (E:TypeId) (s B:Nat) (w:World) (v:Value) (rs:List (List Value)):Prop where
 row:w.ownsRow B E s v rs.length rs.flatten
 wid:∀ r ∈ rs,r.length=s
theorem qIz {α:Type} (s:Nat):∀ (rs:List (List α)) (i j:Nat),(∀ r ∈ rs,r.length=s) -> i < rs.length -> j < s -> rs.flatten[i * s + j]?=(rs.getD i [])[j]?
 | r :: q,0,j,hw,_,hj=>by
   have hr:=hw r (by simp);rw [List.flatten_cons,List.getElem?_append_left (by omega)];simp
 | r :: q,i + 1,j,hw,hi,hj=>by
   have hr:=hw r (by simp);have ih:=qIz s q i j (fun x hx=>hw x (by simp [hx])) (by simpa using hi) hj;rw [List.flatten_cons,List.getElem?_append_right (by rw [hr,Nat.add_mul];omega),hr];rw [show (i + 1) * s + j - s=i * s + j by rw [Nat.add_mul];omega,ih];rfl
theorem qI0 {α:Type} (s:Nat):∀ (rs:List (List α)) (i j:Nat) (u:α),(∀ r ∈ rs,r.length=s) -> i < rs.length -> j < s -> (rs.set i ((rs.getD i []).set j u)).flatten=rs.flatten.set (i * s + j) u
 | r :: q,0,j,u,hw,_,hj=>by
   have hr:=hw r (by simp);simp only [qXo,List.flatten_cons,Nat.zero_mul,Nat.zero_add];rw [List.set_append_left _ _ (by omega)];rfl
 | r :: q,i + 1,j,u,hw,hi,hj=>by
   have hr:=hw r (by simp);have ih:=qI0 s q i j u (fun x hx=>hw x (by simp [hx])) (by simpa using hi) hj;have e:(i + 1) * s + j=r.length + (i * s + j):=by rw [hr,Nat.add_mul];omega
   rw [List.flatten_cons,e,List.set_append_right _ _ (by omega),Nat.add_sub_cancel_left,<- ih];rfl
theorem qCs {α:Type} (s:Nat):∀ (rs:List (List α)),(∀ r ∈ rs,r.length=s) -> rs.flatten.length=rs.length * s
 | [],_=>by simp
 | r :: q,hw=>by
   have ih:=qCs s q (fun x hx=>hw x (by simp [hx]));rw [List.flatten_cons,qW7,ih,hw r (by simp),qXg,Nat.add_mul];omega
section
variable {E:TypeId} {s B K:Nat} {w w':World} {v:Value} {rs:List (List Value)}
theorem OwnC.nil (E:TypeId) (s B:Nat) (w:World):OwnC E s B w (.slice none 0 0) []:=⟨World.ownsRow_nil w B E s,fun _ h=>by cases h⟩
theorem OwnC.below (h:OwnC E s B w v rs) (hb:Below K w w') (hK:w.heap.size <= K):OwnC E s B w' v rs:=by
 refine ⟨h.row.kept (row:=none) ⟨hb.os,hb.tape,hb.output,hb.size,fun k hk _=>hb.block k (by omega)⟩ ?_,h.wid⟩
 cases hv:v.ownBlock <;> simp
theorem OwnC.grown {r:Option Nat} (h:OwnC E s B w v rs) (hg:w.grownBy w' r) (hne:∀ g,v.ownBlock=some g -> r ≠ some g):OwnC E s B w' v rs:=by
 refine ⟨h.row.kept hg ?_,h.wid⟩
 cases hv:v.ownBlock with
 | none=>exact .inl rfl
 | some g=>exact .inr (fun e=>hne g hv e.symm)
theorem OwnC.alloc (h:OwnC E s B w v rs) (o:Obj):OwnC E s B (w.alloc o) v rs:=⟨h.row.alloc o,h.wid⟩
theorem OwnC.drew (h:OwnC E s B w v rs):OwnC E s B w.drew v rs:=⟨h.row.drew,h.wid⟩
theorem OwnC.lift {B':Nat} (h:OwnC E s B w v rs) (hb:B' <= B):OwnC E s B' w v rs:=by
 refine ⟨⟨h.row.1,?_⟩,h.wid⟩;rcases h.row.2 with h2 | ⟨g,cap,cur,hv,hg,r⟩
 ·exact .inl h2
 ·exact .inr ⟨g,cap,cur,hv,by omega,r⟩
theorem OwnC.lt (h:OwnC E s B w v rs):∀ b,v.ownBlock=some b -> B <= b /\ b < w.heap.size:=h.row.lt
theorem qH (w:World) (a:Addr) (u:Value):w.grownBy (w.setCell a u) (some a.block):=⟨rfl,rfl,rfl,by simp,fun i _ hi=>Below.heap_setCell w a u i (fun e=>hi (by rw [e]))⟩
theorem OwnC.aside (h:OwnC E s B w v rs) {p:Addr} (hp:∀ b,v.ownBlock=some b -> b ≠ p.block) (u:Value):OwnC E s B (w.setCell p u) v rs :=
 h.grown (qH w p u) fun g hg e=>hp g hg (by simpa using e.symm)
theorem OwnC.shape (h:OwnC E s B w v rs):∃ ao cap,v=.slice ao rs.length cap /\ rs.length <= cap /\ cap <= 9223372036854775807 /\ (0 < rs.length -> ∃ g,ao=some ⟨g,0,none⟩):=by
 rcases h.row.2 with ⟨rfl,h0⟩ | ⟨g,cap,cur,rfl,hb,hg,hle,hmax,hsz,htake⟩
 ·exact ⟨none,0,by rw [h0],by omega,by omega,fun h=>by omega⟩
 ·exact ⟨_,cap,rfl,hle,by unfold maxLen at hmax;omega,fun _=>⟨g,rfl⟩⟩
theorem OwnC.cell {g n cap:Nat} (h:OwnC E s B w (.slice (some ⟨g,0,none⟩) n cap) rs) (i j:Nat) {u:Value} (hi:i < rs.length) (hj:(rs.getD i [])[j]?=some u) :
    w.cell? ⟨g,i * s + j,none⟩=some u /\ w.frozen? ⟨g,i * s + j,none⟩=false /\ g < w.heap.size /\ B <= g:=by
 have hl:=h.lt g rfl
 have hmem:rs.getD i [] ∈ rs:=by
  simp only [List.getD,qW6 hi,Option.getD_some];exact List.getElem_mem hi
 have hjs:j < s:=by
  rw [<- h.wid _ hmem];exact (qXt.1 hj).1
 have hc:=h.row.cells (g:=g) rfl (i * s + j) u (by rw [qIz s rs i j h.wid hi hjs,hj])
 rw [Addr.add_lit,Nat.zero_add] at hc
 have hf:w.frozen? ⟨g,i * s + j,none⟩=false:=by
  rcases h.row.2 with ⟨h',_⟩ | ⟨g',cap',cur,h',r⟩
  ·simp at h'
  ·simp only [Value.slice.injEq,Option.some.injEq,Addr.mk.injEq] at h'
   obtain ⟨⟨rfl,_⟩,rfl,rfl⟩:=h';exact World.ownsRow.frozenAt ⟨h.row.1,.inr ⟨g,cap,cur,rfl,r⟩⟩ _
 exact ⟨hc,hf,hl.2,hl.1⟩
theorem OwnC.len {g n cap:Nat} (h:OwnC E s B w (.slice (some ⟨g,0,none⟩) n cap) rs):n=rs.length:=by
 rcases h.row.2 with ⟨h',_⟩ | ⟨g',cap',cur,h',_⟩
 ·simp at h'
 ·simp at h';exact h'.2.1
theorem OwnC.rowN (h:OwnC E s B w v rs) {n:Nat} (hn:rs.length=n):w.ownsRow B E s v n rs.flatten:=hn ▸ h.row
theorem OwnC.set {g n cap:Nat} (h:OwnC E s B w (.slice (some ⟨g,0,none⟩) n cap) rs) (i j:Nat) (u:Value) (hi:i < rs.length) (hj:j < s) :
    OwnC E s B (w.setCell ⟨g,i * s + j,none⟩ u) (.slice (some ⟨g,0,none⟩) n cap) (rs.set i ((rs.getD i []).set j u)):=by
 have hn:=h.len
 subst hn
 refine ⟨?_,fun r hr=>?_⟩
 ·rw [List.length_set,qI0 s rs i j u h.wid hi hj]
  exact (h.row.stored (i * s + j) u).1
 ·rcases List.mem_or_eq_of_mem_set hr with hr | rfl
  ·exact h.wid r hr
  ·rw [List.length_set]
   refine h.wid _ ?_;simp only [List.getD,qW6 hi,Option.getD_some];exact List.getElem_mem hi
theorem OwnC.take {g n cap:Nat} (h:OwnC E s B w (.slice (some ⟨g,0,none⟩) n cap) rs) (m:Nat) (hm:m <= rs.length):OwnC E s B w (.slice (some ⟨g,0,none⟩) m cap) (rs.take m):=by
 have hn:=h.len;subst hn;have hw:∀ r ∈ rs.take m,r.length=s:=fun r hr=>h.wid r (qXs hr)
 refine ⟨⟨qCs s _ hw,?_⟩,hw⟩;rcases h.row.2 with ⟨h',_⟩ | ⟨g',cap',cur,h',hb,hg,hle,hmax,hsz,htake⟩
 ·simp at h'
 ·simp only [Value.slice.injEq,Option.some.injEq,Addr.mk.injEq] at h'
  obtain ⟨⟨rfl,_⟩,_,rfl⟩:=h';refine .inr ⟨g,cap,cur,by simp [Nat.min_eq_left hm],hb,hg,by rw [qXu];omega,hmax,hsz,?_⟩;have hl:(rs.take m).length=m:=by simp;omega
  rw [hl];have e:rs.flatten=(rs.take m).flatten ++ (rs.drop m).flatten:=by rw [<- List.flatten_append,List.take_append_drop]
  have hle2:m * s <= rs.length * s:=qXl s hm;have:cur.toList.take (m * s)=(cur.toList.take (rs.length * s)).take (m * s):=by rw [List.take_take,Nat.min_eq_left hle2]
  rw [this,htake,e,List.take_left' (by rw [qCs s _ hw,hl])]
theorem OwnC.snoc {n:Nat} (r:List Value) (hr:r.length=s) (hw:∀ r ∈ rs,r.length=s) (hn:n=rs.length + 1) (h:w.ownsRow B E s v n (rs.flatten ++ r)):OwnC E s B w v (rs ++ [r]):=by
 subst hn;refine ⟨by simpa using h,fun x hx=>?_⟩;rcases List.mem_append.1 hx with hx | hx
 ·exact hw x hx
 ·simp at hx
  rw [hx,hr]
end
open Go.RowKit
structure OwnV (E:TypeId) (base:Nat) (w:World) (v:Value) (vs:List Value):Prop where
 row:w.ownsRow base E 1 v vs.length vs
section
variable {E:TypeId} {base B:Nat} {w w':World} {v:Value} {vs:List Value}
theorem OwnV.below (h:OwnV E base w v vs) (hb:Below B w w') (hB:w.heap.size <= B):OwnV E base w' v vs:=by
 refine ⟨h.row.kept (row:=none) ⟨hb.os,hb.tape,hb.output,hb.size,fun k hk _=>hb.block k (by omega)⟩ ?_⟩
 cases hv:v.ownBlock <;> simp
theorem OwnV.lift (h:OwnV E base w v vs) {base':Nat} (hb:base' <= base):OwnV E base' w v vs:=by
 refine ⟨⟨h.row.1,?_⟩⟩;rcases h.row.2 with h2 | ⟨g,cap,cur,hv,hg,r⟩
 ·exact .inl h2
 ·exact .inr ⟨g,cap,cur,hv,by omega,r⟩
theorem OwnV.nil (E:TypeId) (base:Nat) (w:World):OwnV E base w (.slice none 0 0) []:=⟨World.ownsRow_nil w base E 1⟩
theorem OwnV.lt (h:OwnV E base w v vs):∀ b,v.ownBlock=some b -> base <= b /\ b < w.heap.size:=h.row.lt
theorem OwnV.alloc (h:OwnV E base w v vs) (o:Obj):OwnV E base (w.alloc o) v vs:=⟨h.row.alloc o⟩
theorem OwnV.drew (h:OwnV E base w v vs):OwnV E base w.drew v vs:=⟨h.row⟩
end
open Go.RowKit
def Bx (C:Nat -> Prop) (w:World) (Φ:World -> Prop):Prop:=∀ w',(∀ b,C b -> w'.heap[b]?=w.heap[b]?) -> Φ w'
section
variable {C C':Nat -> Prop} {w w':World} {Φ Ψ:World -> Prop}
theorem Bx.now (h:Bx C w Φ):Φ w:=h w fun _ _=>rfl
theorem Bx.more (h:Bx C w Φ) (hc:∀ b,C b -> C' b):Bx C' w Φ:=fun w' h'=>h w' fun b hb=>h' b (hc b hb)
theorem Bx.keep (h:Bx C w Φ) (hk:∀ b,C b -> w'.heap[b]?=w.heap[b]?):Bx C w' Φ:=fun w2 h2=>h w2 fun b hb=>(h2 b hb).trans (hk b hb)
theorem Bx.to (h:Bx C w Φ) (hk:∀ b,C b -> w'.heap[b]?=w.heap[b]?) (hc:∀ b,C b -> C' b):Bx C' w' Φ:=(h.keep hk).more hc
theorem Bx.imp (h:Bx C w Φ) (hi:∀ w,Φ w -> Ψ w):Bx C w Ψ:=fun w' h'=>hi w' (h w' h')
theorem Bx.imp2 {Ω:World -> Prop} (h:Bx C w Φ) (h2:Bx C w Ψ) (hi:∀ w,Φ w -> Ψ w -> Ω w):Bx C w Ω:=fun w' h'=>hi w' (h w' h') (h2 w' h')
theorem Bx.pure {p:Prop} (h:p):Bx C w fun _=>p:=fun _ _=>h
end
def Rx (w:World) (Φ:World -> Prop):Prop:=Bx (fun b=>b < w.heap.size) w Φ
section
variable {w w':World} {Φ Ψ:World -> Prop} {α:Type}
theorem Rx.now (h:Rx w Φ):Φ w:=Bx.now h
theorem Rx.below (h:Rx w Φ) (hb:Below w.heap.size w w'):Rx w' Φ:=Bx.to h (fun b hlt=>hb.block b hlt) fun _ hlt=>qXr hlt hb.size
theorem Rx.imp (h:Rx w Φ) (hi:∀ w,Φ w -> Ψ w):Rx w Ψ:=Bx.imp h hi
theorem Rx.alloc (h:Rx w Φ) (o:Obj):Rx (w.alloc o) Φ:=h.below (Bl.alloc (Bl.refl _) _)
theorem Rd.rx {k:IntKind} {ao:Option Addr} {n cap:Nat} {xs:List Int} (h:Rd k w ao n cap xs):Rx w fun w=>Rd k w ao n cap xs:=fun w' h' =>
 ⟨h.len,h.le,h.max,h.nil,fun ad ha i hi=>by
  have hc:=h.cell ad ha i hi
  exact (World.cell?_of_block (h' _ (qXc w _ hc))).trans hc,h.wf⟩
structure RdG (s:Nat) (R:World -> List Value -> α -> Prop) (w:World) (ao:Option Addr) (n cap:Nat) (xs:List α):Prop where
 len:xs.length=n
 le:n <= cap
 max:cap <= maxLen
 nil:ao=none -> cap=0
 cell:∀ i x,xs[i]?=some x -> ∃ b off cs,ao=some ⟨b,off,none⟩ /\ cs.length=s /\ R w cs x /\ ∀ j v,cs[j]?=some v -> w.cell? ⟨b,off + i * s + j,none⟩=some v
variable {s:Nat} {R:World -> List Value -> α -> Prop} {ao:Option Addr} {n cap:Nat} {xs:List α}
theorem RdG.empty (w:World):RdG s R w none 0 0 ([]:List α):=⟨rfl,qW8 _,qXf _,fun _=>rfl,fun _ _ h=>by simp at h⟩
theorem RdG.cap63 (h:RdG s R w ao n cap xs):n <= 9223372036854775807 /\ cap <= 9223372036854775807:=by have:=h.max;have:=h.le;unfold maxLen at *;omega
theorem RdG.elem (h:Rx w fun w=>RdG s R w ao n cap xs) {i:Nat} {x:α} (hx:xs[i]?=some x):∃ b off cs,ao=some ⟨b,off,none⟩ /\ cs.length=s /\ (Rx w fun w=>R w cs x) /\ ∀ j v,cs[j]?=some v -> w.cell? ⟨b,off + i * s + j,none⟩=some v:=by
 obtain ⟨b,off,cs,e,hl,hR,hc⟩:=h.now.cell i x hx;refine ⟨b,off,cs,e,hl,fun w' h'=>?_,hc⟩;obtain ⟨b2,off2,cs2,e2,hl2,hR2,hc2⟩:=(h w' h').cell i x hx;rw [e] at e2;simp only [Option.some.injEq,Addr.mk.injEq,and_true] at e2;obtain ⟨rfl,rfl⟩:=e2
 have:cs=cs2:=by
  refine List.ext_getElem (hl.trans hl2.symm) fun j h1 h2=>?_;have a1:=hc j _ (qW6 h1);have a2:=hc2 j _ (qW6 h2);rw [World.cell?_of_block (h' _ (qXc w _ a1)),a1] at a2;exact Option.some.inj a2
 rw [this];exact hR2
end
theorem qO (w:World) (r:Option Nat):w.grownBy w r:=⟨rfl,rfl,rfl,qW8 _,fun _ _ _=>rfl⟩
theorem qF {a b c:World} {r:Option Nat} (h:a.grownBy b r) (k:b.grownBy c r):a.grownBy c r :=
 ⟨k.os.trans h.os,k.tape.trans h.tape,k.output.trans h.output,qXk h.size k.size,fun i hi hr=>(k.block i (qXr hi h.size) hr).trans (h.block i hi hr)⟩
theorem xR {a b:World} {B:Nat} (h:Below B a b) (hB:a.heap.size <= B) (r:Option Nat):a.grownBy b r:=⟨h.os,h.tape,h.output,h.size,fun i hi _=>h.block i (by omega)⟩
theorem q8 {a b c:World} {r:Option Nat} {r2:Option Nat} (h:a.grownBy b r) (k:b.grownBy c r2) (hr:∀ g,r2=some g -> a.heap.size <= g):a.grownBy c r :=
 ⟨k.os.trans h.os,k.tape.trans h.tape,k.output.trans h.output,qXk h.size k.size,fun i hi hne=>(k.block i (qXr hi h.size) (fun e=>by have:=hr i e.symm;omega)).trans (h.block i hi hne)⟩
theorem qC {a b:World} {p:Nat} (h:a.grownBy b (some p)) (o:Nat) (u:Value):a.grownBy (b.setCell ⟨p,o,none⟩ u) (some p):=qF h (qH b ⟨p,o,none⟩ u)
theorem qU {a b:World} {r:Option Nat} (h:a.grownBy b r) (o:Obj):a.grownBy (b.alloc o) r:=qF h (xR (Bl.alloc (Bl.refl b) o) (qW8 _) r)
structure OwnG {α:Type} (E:TypeId) (s:Nat) (R:World -> List Value -> α -> Prop) (B:Nat) (w:World) (v:Value) (xs:List α):Prop where
 row:∃ css:List (List Value),css.length=xs.length /\ OwnC E s B w v css /\ ∀ (i:Nat) (cs:List Value) (x:α),css[i]?=some cs -> xs[i]?=some x -> Bx (fun b=>B <= b /\ b < w.heap.size /\ v.ownBlock ≠ some b) w fun w=>R w cs x
section
variable {α:Type} {E:TypeId} {s B:Nat} {R:World -> List Value -> α -> Prop} {w w':World} {v:Value} {xs:List α}
theorem OwnG.nil (E:TypeId) (s:Nat) (R:World -> List Value -> α -> Prop) (B:Nat) (w:World):OwnG E s R B w (.slice none 0 0) []:=⟨[],rfl,OwnC.nil E s B w,fun _ _ _ h=>by simp at h⟩
theorem OwnG.lt (h:OwnG E s R B w v xs):∀ b,v.ownBlock=some b -> B <= b /\ b < w.heap.size:=by
 obtain ⟨css,_,hc,_⟩:=h.row;exact hc.lt
theorem OwnG.shape (h:OwnG E s R B w v xs):∃ ao cap,v=.slice ao xs.length cap /\ xs.length <= cap /\ cap <= 9223372036854775807 /\ (0 < xs.length -> ∃ g,ao=some ⟨g,0,none⟩ /\ B <= g /\ g < w.heap.size):=by
 obtain ⟨css,hl,hc,_⟩:=h.row;obtain ⟨ao,cap,rfl,h1,h2,h3⟩:=hc.shape;rw [hl] at *;refine ⟨ao,cap,rfl,h1,h2,fun h0=>?_⟩;obtain ⟨g,rfl⟩:=h3 h0;exact ⟨g,rfl,hc.lt g rfl⟩
theorem OwnG.kept (h:OwnG E s R B w v xs) {r:Option Nat} (hg:w.grownBy w' r) (hr:∀ p,r=some p -> p < B):OwnG E s R B w' v xs:=by
 obtain ⟨css,hl,hc,hx⟩:=h.row;refine ⟨css,hl,hc.grown hg (fun g hv e=>by have:=(hc.lt g hv).1;have:=hr g e;omega),fun i cs x h1 h2=>(hx i cs x h1 h2).to (fun b hb=>hg.block b hb.2.1 (fun e=>by have:=hr b e.symm;omega)) fun b hb=>⟨hb.1,qXr hb.2.1 hg.size,hb.2.2⟩⟩
theorem OwnG.below (h:OwnG E s R B w v xs) {K:Nat} (hb:Below K w w') (hK:w.heap.size <= K):OwnG E s R B w' v xs:=h.kept (xR hb hK none) fun _ h=>by cases h
theorem OwnG.alloc (h:OwnG E s R B w v xs) (o:Obj):OwnG E s R B (w.alloc o) v xs:=h.below (Bl.alloc (Bl.refl w) o) (qW8 _)
theorem OwnG.lift (h:OwnG E s R B w v xs) {B':Nat} (hB:B' <= B):OwnG E s R B' w v xs:=by
 obtain ⟨css,hl,hc,hx⟩:=h.row;exact ⟨css,hl,hc.lift hB,fun i cs x h1 h2=>(hx i cs x h1 h2).more fun b hb=>⟨by omega,hb.2⟩⟩
theorem OwnG.bx (h:OwnG E s R B w v xs):∃ ao cap,v=.slice ao xs.length cap /\ Bx (fun b=>B <= b /\ b < w.heap.size) w fun w=>RdG s R w ao xs.length cap xs:=by
 obtain ⟨css,hl,hc,hx⟩:=h.row;obtain ⟨ao,cap,rfl,h1,h2,h3⟩:=hc.shape;rw [hl] at h1 h3 ⊢;refine ⟨ao,cap,rfl,fun w' h'=>⟨rfl,h1,by unfold maxLen;omega,fun e=>?_,fun i x hi=>?_⟩⟩
 ·rcases hc.row.2 with ⟨e1,_⟩ | ⟨g,cap',cur,e1,_⟩
  ·simp at e1;exact e1.2.2
  ·simp at e1;rw [e] at e1;simp at e1
 ·have hil:i < xs.length:=(qXt.1 hi).1
  obtain ⟨g,rfl⟩:=h3 (by omega);have hg:=hc.lt g rfl;have hcs:css[i]?=some (css.getD i []):=by simp [List.getD,show i < css.length by omega]
  refine ⟨g,0,css.getD i [],rfl,hc.wid _ (qXa hcs),(hx i _ x hcs hi) w' (fun b hb=>h' b ⟨hb.1,hb.2.1⟩),fun j u hj=>?_⟩;have:=(OwnC.cell (n:=css.length) (by simpa [hl] using hc) i j (by omega) hj).1;rw [Nat.zero_add];exact (World.cell?_of_block (h' g hg)).trans this
theorem OwnG.rx (h:OwnG E s R B w v xs):∃ ao cap,v=.slice ao xs.length cap /\ Rx w fun w=>RdG s R w ao xs.length cap xs:=by
 obtain ⟨ao,cap,e,hb⟩:=h.bx;exact ⟨ao,cap,e,Bx.more hb fun b h=>h.2⟩
theorem OwnG.step {css:List (List Value)} (hl:css.length=xs.length) (hc:OwnC E s B w v css)
    (hx:∀ (i:Nat) (cs:List Value) (x:α),css[i]?=some cs -> xs[i]?=some x -> Bx (fun b=>B <= b /\ b < w.heap.size /\ v.ownBlock ≠ some b) w fun w=>R w cs x)
    {x:α} {cs:List Value} {H:Nat} (hcs:cs.length=s) (hR:Bx (fun b=>B <= b /\ b < w.heap.size /\ v.ownBlock ≠ some b) w fun w=>R w cs x)
    {g cap n:Nat} (hn:n=xs.length + 1) (hrow':w'.ownsRow B E s (.slice (some ⟨g,0,none⟩) n cap) n (css.flatten ++ cs)) (hgr:w.grownBy w' v.ownBlock) (hg:v.ownBlock=some g ∨ g=H) (hH:w.heap.size=H) :
    OwnG E s R B w' (.slice (some ⟨g,0,none⟩) n cap) (xs ++ [x]):=by
 have hne:∀ b,b < w.heap.size -> v.ownBlock ≠ some b -> g ≠ b:=fun b hb hv e=>by
  rcases hg with h | h
  ·exact hv (by rw [h,e])
  ·omega
 have hto:∀ {Φ:World -> Prop},Bx (fun b=>B <= b /\ b < w.heap.size /\ v.ownBlock ≠ some b) w Φ -> Bx (fun b=>B <= b /\ b < w'.heap.size /\ (Value.slice (some ⟨g,0,none⟩) n cap).ownBlock ≠ some b) w' Φ:=fun h =>
  h.to (fun b hb=>hgr.block b hb.2.1 (fun e=>hb.2.2 e.symm)) fun b hb=>⟨hb.1,qXr hb.2.1 hgr.size,fun e=>hne b hb.2.1 hb.2.2 (by simpa [Value.ownBlock] using e)⟩
 refine ⟨css ++ [cs],by simp [hl],OwnC.snoc cs hcs hc.wid (by rw [hn,hl]) hrow',fun i cs' x' h1 h2=>?_⟩
 rcases Nat.lt_or_ge i xs.length with hi | hi
 ·rw [List.getElem?_append_left (by omega)] at h1
  rw [List.getElem?_append_left hi] at h2;exact hto (hx i cs' x' h1 h2)
 ·rw [List.getElem?_append_right (by omega),hl] at h1
  rw [List.getElem?_append_right hi] at h2
  have e0:i - xs.length=0:=by
   have:=(qXt.1 h2).1;simp at this;omega
  rw [e0] at h1 h2;simp at h1 h2;subst h1 h2;exact hto hR
theorem qQ {P:Program} {ops:Array Oper} {rest:List Oper} {o:Oper} {a:Act} {Q:Exit -> Act -> World -> Prop} (hgd:o.guard=none) (so xo:Operand) (t:TypeId)
    (ho:o.op=.call { callee:=.builtin .append,args:=#[so,xo],argTypes:=#[t,t] })
    (bytes:Nat) (z:Value) (ht:P.underlying t=some (.slice E)) (hi:(P.info? E).map (fun i=>(i.zero,i.size,i.bytes))=some (some z,s,bytes)) (hzs:z.cells.size=s) (hsz:0 < s)
    (hs:a.eval so=v) (h:OwnG E s R B w v xs) (hB:B <= w.heap.size)
    (q:Nat) (cs:List Value) (hx:a.eval xo=.slice (some ⟨q,0,none⟩) 1 1) (hcs:cs.length=s) (hnews:∀ j u,cs[j]?=some u -> w.cell? ⟨q,j,none⟩=some u) (h1:∀ u ∈ cs,u.oneCell'=true)
    (x:α) (hR:Bx (fun b=>B <= b /\ b < w.heap.size /\ v.ownBlock ≠ some b) w fun w=>R w cs x)
    (h63:xs.length + 1 <= 4611686018427387904) (hbytes:(xs.length + 1) * bytes <= 140737488355328)
    (hk:∀ v' w',OwnG E s R B w' v' (xs ++ [x]) -> w.grownBy w' v.ownBlock -> wpList P ops Q rest (a.put o.dst v') w'):wpList P ops Q (o :: rest) a w:=by
 obtain ⟨i,hi0,hz,his,hby⟩:=info_parts hi
 obtain ⟨css,hl,hc,hxs⟩:=h.row
 refine wpList_append_lies _ hgd so xo t ho B E i z s bytes ht hi0 hz his hby hzs hsz v css.length css.flatten hs hc.row ⟨q,0,none⟩ 1 1 cs hx (by rw [hcs,Nat.one_mul]) (fun j u hu=>by rw [Addr.add_lit,Nat.zero_add];exact hnews j u hu) h1 (by decide) (by rw [hl];unfold maxLen;omega) (by rw [hl];exact hbytes) hB w.heap.size rfl ?_
 intro g cap w' o1 o2 o3 _
 exact hk _ _ (OwnG.step hl hc hxs hcs hR (by rw [hl]) o1 o2 o3 rfl) o2
end
def IR (k:IntKind) (_:World) (cs:List Value) (x:Int):Prop:=cs=[.int k x] /\ (Lit.int k x).wf=true
theorem RdG.ints {k:IntKind} {w:World} {ao:Option Addr} {n cap:Nat} {xs:List Int} (h:RdG 1 (IR k) w ao n cap xs):Rd k w ao n cap xs:=by
 refine ⟨h.len,h.le,h.max,h.nil,fun ad ha i hi=>?_,fun x hx=>?_⟩
 ·have hil:i < xs.length:=by rw [h.len];exact hi
  obtain ⟨b,off,cs,e,_,⟨rfl,_⟩,hc⟩:=h.cell i xs[i] (qW6 hil);rw [e] at ha
  cases ha
  have:=hc 0 _ rfl;rw [Addr.add_lit];simpa [List.getD,hil] using this
 ·obtain ⟨i,hi,rfl⟩:=List.mem_iff_getElem.1 hx
  obtain ⟨b,off,cs,e,_,⟨rfl,hw⟩,hc⟩:=h.cell i xs[i] (qW6 hi);exact hw
theorem Rd.ints {k:IntKind} {w:World} {ao:Option Addr} {n cap:Nat} {xs:List Int} (h:Rd k w ao n cap xs):RdG 1 (IR k) w ao n cap xs:=by
 refine ⟨h.len,h.le,h.max,h.nil,fun i x hi=>?_⟩;have hil:i < xs.length:=(qXt.1 hi).1;obtain ⟨b,off,e,hc⟩:=h.at (by rw [<- h.len];omega)
 refine ⟨b,off,[.int k x],e,rfl,⟨rfl,h.wf x (qXa hi)⟩,fun j v hj=>?_⟩;have hj0:j=0:=by have:=(qXt.1 hj).1;simp at this;omega
 subst hj0;simp at hj;subst hj;have:=hc i (by rw [<- h.len];exact hil);rw [Nat.mul_one,qXd,this];simp [List.getD,hi]
theorem OwnG.ints {E:TypeId} {k:IntKind} {B:Nat} {w:World} {v:Value} {xs:List Int} (h:OwnG E 1 (IR k) B w v xs):Own E k B w v xs:=by
 obtain ⟨css,hl,hc,hx⟩:=h.row
 have he:css.flatten=xs.map (Value.int k):=by
  have:css=xs.map fun x=>[Value.int k x]:=by
   refine List.ext_getElem (by simp [hl]) fun i h1 h2=>?_;have hi:i < xs.length:=by omega
   have:=(hx i _ xs[i] (qW6 h1) (qW6 hi)).now;simp [this.1]
  rw [this];clear this hx hc hl h
  induction xs with
  | nil=>rfl
  | cons x r ih=>simp [ih]
 refine ⟨?_,fun x hx'=>?_⟩
 ·have:=hc.row
  rw [he,hl] at this;exact this
 ·obtain ⟨i,hi,rfl⟩:=List.mem_iff_getElem.1 hx'
  exact ((hx i _ xs[i] (qW6 (show i < css.length by omega)) (qW6 hi)).now).2
theorem Own.bx {E:TypeId} {k:IntKind} {B:Nat} {w:World} {v:Value} {xs:List Int} (h:Own E k B w v xs):∃ ao cap,v=.slice ao xs.length cap /\ Bx (fun b=>B <= b /\ b < w.heap.size) w fun w=>Rd k w ao xs.length cap xs:=by
 obtain ⟨ao,cap,rfl,hr⟩:=h.rd;refine ⟨ao,cap,rfl,fun w' h'=>⟨hr.len,hr.le,hr.max,hr.nil,fun ad ha i hi=>?_,hr.wf⟩⟩;have hc:=hr.cell ad ha i hi;have hb:=qXc w _ hc;have hg:=h.lt ad.block (by rw [ha];rfl);refine (World.cell?_of_block (h' _ ⟨?_,hb⟩)).trans hc;have:(ad.add i).block=ad.block:=by unfold Addr.add;split <;> rfl
 omega
open Go.RowKit
def zQ (ops:Array Oper) (i:Nat):Option Tmp:=(ops[i]?).bind (·.dst)
def jU (ops:Array Oper) (a:Act) (i:Nat):Value:=match zQ ops i with | some d=>a.tmps.getD d undef | none=>undef
def Is (x:Value):Value -> World -> Prop:=fun v _=>v=x
def qDt (ops:Array Oper) (size:Nat):Bool :=
 (List.range ops.size).all fun i=>match ops[i]? with
  | some o=>o.after.all (fun e=>!Region.binds .any e || decide (e.on < i)) && (match o.dst with | some d=>decide (d < size) && (List.range i).all (fun j=>zQ ops j != some d) | none=>true)
  | none=>true
def zA (o:Oper):List Nat:=(o.after.toList.filter (Region.binds .any)).map (·.on)
structure Agree (ops:Array Oper) (a0 a:Act):Prop where
 defers:a.defers=a0.defers
 size:a.tmps.size=a0.tmps.size
 same:∀ s,(ops.all fun o=>o.dst != some s)=true -> a.tmps.getD s undef=a0.tmps.getD s undef
def qN:List (Value -> World -> Prop) -> Nat -> Value -> World -> Prop
 | [],_=>fun _ _=>True
 | f :: _,0=>f
 | _ :: r,i + 1=>qN r i
def qDz (ops:Array Oper) (Fl:List (Value -> World -> Prop)) (a:Act) (w:World) (G:Prop):List Nat -> Prop
 | []=>G
 | j :: js=>qN Fl j (jU ops a j) w -> qDz ops Fl a w G js
def uZ (ops:Array Oper) (i s:Nat):Bool:=(List.range ops.size).all fun j=>match ops[j]? with
 | some o=>o.dst != some s || decide (j=i) || (zA o).contains i
 | none=>true
def zB (P:Program) (ops:Array Oper) (Q:Exit -> Act -> World -> Prop) (C:World -> Prop) (T:World -> World -> Prop) (Fl:List (Value -> World -> Prop)) (a0:Act) (i:Nat):Prop :=
 ∀ o,ops[i]?=some o -> ∀ a w,C w -> (∀ s,uZ ops i s=true -> a.tmps.getD s undef=a0.tmps.getD s undef) -> qDz ops Fl a w (wpOp P ops Q i (fun a' w'=>∃ v,a'=a.put o.dst v /\ qN Fl i (if o.dst=none then undef else v) w' /\ T w w') a w) (zA o)
def xV (Q:Exit -> Act -> World -> Prop) (w:World):List (Value -> World -> Prop) -> List (Option Tmp) -> Act -> Prop
 | f :: fs,d :: ds,a=>∀ v,f v w -> xV Q w fs ds (a.put d v)
 | _,_,a=>Q .normal a w
section
variable {P:Program} {ops:Array Oper} {Q:Exit -> Act -> World -> Prop} {C:World -> Prop} {T:World -> World -> Prop} {Fl:List (Value -> World -> Prop)} {a0:Act}
theorem qDz.to {a:Act} {w:World} {G:Prop}:∀ (js:List Nat),qDz ops Fl a w G js -> (∀ j ∈ js,qN Fl j (jU ops a j) w) -> G
 | [],h,_=>h
 | j :: js,h,hf=>qDz.to js (h (hf j (by simp))) fun i hi=>hf i (by simp [hi])
theorem vS:∀ {Fl:List (Value -> World -> Prop)} {i:Nat} {f:Value -> World -> Prop},Fl[i]?=some f -> qN Fl i=f
 | g :: r,0,f,h=>by simpa [qN] using h
 | g :: r,i + 1,f,h=>vS (Fl:=r) (by simpa using h)
theorem qDz.imp {a:Act} {w:World} {G G':Prop}:∀ {js:List Nat},qDz ops Fl a w G js -> (G -> G') -> qDz ops Fl a w G' js
 | [],h,hi=>hi h
 | _ :: js,h,hi=>fun hf=>qDz.imp (js:=js) (h hf) hi
theorem jX {size i:Nat} {o:Oper} (h:qDt ops size=true) (ho:ops[i]?=some o):(∀ e ∈ o.after,Region.binds .any e=true -> e.on < i) /\ (∀ d,o.dst=some d -> d < size /\ ∀ j,j < i -> zQ ops j ≠ some d):=by
 unfold qDt at h;rw [qXb] at h;have hi:i < ops.size:=(qXw.1 ho).1;have:=h i (List.mem_range.2 hi);rw [ho] at this;simp only [qXi] at this;refine ⟨fun e he hb=>?_,fun d hd=>?_⟩
 ·have:=Array.all_eq_true_iff_forall_mem.1 this.1 e he
  simpa [hb] using this
 ·have h2:=this.2
  rw [hd] at h2;simp only [qXi,decide_eq_true_eq,qXb,List.mem_range,bne_iff_ne,ne_eq] at h2;exact h2
theorem qD0 {size i j:Nat} {d:Tmp} (h:qDt ops size=true) (hi:zQ ops i=some d) (hj:zQ ops j=some d):i=j:=by
 obtain ⟨oi,h1,h2⟩:=Option.bind_eq_some_iff.1 hi;obtain ⟨oj,h3,h4⟩:=Option.bind_eq_some_iff.1 hj;rcases Nat.lt_trichotomy i j with g | g | g
 ·exact absurd hi (((jX h h3).2 d h4).2 i g)
 ·exact g
 ·exact absurd hj (((jX h h1).2 d h2).2 j g)
theorem qEo (a:Act) (d:Option Tmp) (v:Value):(a.put d v).tmps.size=a.tmps.size:=by cases d <;> simp [Act.put]
theorem qBl (a:Act) (d:Option Tmp) (v:Value):(a.put d v).defers=a.defers:=by cases d <;> rfl
theorem xS (a:Act) (d s:Nat) (v:Value) (h:d < a.tmps.size):(a.put (some d) v).tmps.getD s undef=if s=d then v else a.tmps.getD s undef:=by
 simp only [Act.put,qXn,Array.getElem?_setIfInBounds];by_cases e:d=s
 ·subst e;simp [h]
 ·simp [e,Ne.symm e]
structure Inv (ops:Array Oper) (C:World -> Prop) (Fl:List (Value -> World -> Prop)) (a0:Act) (listed:Array Bool) (a:Act) (w:World):Prop where
 size:listed.size=ops.size
 agree:Agree ops a0 a
 c:C w
 closed:∀ (j:Nat) (o:Oper),listed.getD j false=true -> ops[j]?=some o -> ∀ i ∈ zA o,listed.getD i false=true
 fresh:∀ s,(∀ j,zQ ops j=some s -> listed.getD j false=false) -> a.tmps.getD s undef=a0.tmps.getD s undef
 facts:∀ i,listed.getD i false=true -> qN Fl i (jU ops a i) w
theorem Inv.step {listed:Array Bool} {a:Act} {w w':World} {i:Nat} {o:Oper} {v:Value} (hst:qDt ops a0.tmps.size=true)
    (hT:∀ w w',C w -> T w w' -> C w' /\ ∀ i v,qN Fl i v w -> qN Fl i v w') (h:Inv ops C Fl a0 listed a w) (ho:ops[i]?=some o)
    (hF:qN Fl i (if o.dst=none then undef else v) w') (ht:T w w') (hready:∀ j ∈ zA o,listed.getD j false=true):Inv ops C Fl a0 (listed.setIfInBounds i true) (a.put o.dst v) w':=by
 have hset:∀ j,listed.getD j false=true -> (listed.setIfInBounds i true).getD j false=true:=by
  intro j hj;simp only [qXn,Array.getElem?_setIfInBounds] at hj ⊢;split
  ·split <;> simp_all
  ·exact hj
 have hseti:(listed.setIfInBounds i true).getD i false=true:=by
  have:i < listed.size:=by rw [h.size];exact (qXw.1 ho).1
  simp [this]
 obtain ⟨hc,hf⟩:=hT w w' h.c ht
 have hdo:zQ ops i=o.dst:=by simp [zQ,ho]
 refine ⟨by simp [h.size],⟨by rw [qBl];exact h.agree.defers,by rw [qEo];exact h.agree.size,?_⟩,hc,?_,?_,?_⟩
 ·intro s hs
  cases hd:o.dst with
  | none=>exact h.agree.same s hs
  | some d =>
    have hlt:=((jX hst ho).2 d hd).1;rw [xS _ _ _ _ (by rw [h.agree.size];exact hlt)]
    have hne:s ≠ d:=by
     rintro rfl;have:=Array.all_eq_true_iff_forall_mem.1 hs o (Array.mem_of_getElem? ho);simp [hd] at this
    rw [if_neg hne];exact h.agree.same s hs
 ·intro j o' hj hoj k hk
  by_cases e:j=i
  ·subst e
   rw [ho] at hoj
   cases hoj
   exact hset k (hready k hk)
  ·refine hset k (h.closed j o' ?_ hoj k hk)
   simp only [qXn,Array.getElem?_setIfInBounds] at hj ⊢;rw [if_neg (Ne.symm e)] at hj;exact hj
 ·intro s hs
  have hold:=h.fresh s (fun j hj=>by
   have:=hs j hj
   cases hb:listed.getD j false with
   | false=>rfl
   | true=>rw [hset j hb] at this;cases this)
  cases hd:o.dst with
  | none=>exact hold
  | some d =>
    have hlt:=((jX hst ho).2 d hd).1;rw [xS _ _ _ _ (by rw [h.agree.size];exact hlt),if_neg]
    ·exact hold
    ·rintro rfl
     have:=hs i (hdo.trans hd);rw [hseti] at this
     cases this
 ·intro j hj
  by_cases e:j=i
  ·subst e
   unfold jU;rw [hdo]
   cases hd:o.dst with
   | none=>simpa [hd] using hF
   | some d =>
     have hlt:=((jX hst ho).2 d hd).1;dsimp only;rw [xS _ _ _ _ (by rw [h.agree.size];exact hlt)];simpa [hd] using hF
  ·have hj':listed.getD j false=true:=by
      simp only [qXn,Array.getElem?_setIfInBounds] at hj ⊢;rw [if_neg (Ne.symm e)] at hj;exact hj
   have hv:jU ops (a.put o.dst v) j=jU ops a j:=by
    unfold jU
    cases hdj:zQ ops j with
    | none=>rfl
    | some d' =>
      cases hd:o.dst with
      | none=>rfl
      | some d =>
        have hlt:=((jX hst ho).2 d hd).1;dsimp only;rw [xS _ _ _ _ (by rw [h.agree.size];exact hlt),if_neg];rintro rfl;exact e (qD0 hst hdj (hdo.trans hd))
   rw [hv];exact hf j _ (h.facts j hj')
def jZ (listed:Array Bool):Nat:=(listed.toList.filter (! ·)).length
theorem yI {listed:Array Bool} {i:Nat} (h:listed[i]?=some false):jZ (listed.setIfInBounds i true) + 1=jZ listed:=by
 unfold jZ;have hi:=(qXw.1 h).1;have hv:=(qXw.1 h).2;rw [Array.toList_setIfInBounds];have:listed.toList[i]?=some false:=by simpa using h
 generalize listed.toList=l at this;clear h hi hv
 induction l generalizing i with
 | nil=>simp at this
 | cons b r ih =>
   cases i with
   | zero=>simp at this;subst this;simp
   | succ i =>
     have:=ih (i:=i) (by simpa using this)
     cases b <;> simp [List.set_cons_succ] <;> omega
theorem qEp {size:Nat} {listed:Array Bool} (hst:qDt ops size=true) (hs:listed.size=ops.size) (h:Region.ready .any ops listed=[]):∀ i,i < ops.size -> listed.getD i false=true:=by
 intro i
 induction i using Nat.strongRecOn with
 | _ i ih =>
   intro hi;by_cases hl:listed.getD i false=true
   ·exact hl
   ·exfalso
    have hmem:i ∈ Region.ready .any ops listed:=by
     unfold Region.ready;rw [List.mem_filter];refine ⟨List.mem_range.2 hi,?_⟩;have ho:ops[i]?=some ops[i]:=Array.getElem?_eq_getElem hi
     have hlt:listed.getD i true=false:=by
      have:i < listed.size:=by omega
      simp [Array.getD,this] at hl ⊢;exact hl
     simp only [ho,hlt,Option.map_some,Option.getD_some,Bool.not_false,Bool.true_and];rw [Array.all_eq_true_iff_forall_mem];intro e he;by_cases hb:Region.binds .any e=true
     ·have:=(jX hst ho).1 e he hb
      rw [ih e.on this (by omega)];simp
     ·simp [hb]
    rw [h] at hmem
    cases hmem
theorem qJ4 (hst:qDt ops a0.tmps.size=true) (hT:∀ w w',C w -> T w w' -> C w' /\ ∀ i v,qN Fl i v w -> qN Fl i v w')
    (hop:∀ i,i < ops.size -> zB P ops Q C T Fl a0 i)
    (hend:∀ a w,C w -> Agree ops a0 a -> (∀ i,i < ops.size -> qN Fl i (jU ops a i) w) -> Q .normal a w) :
    ∀ (fuel:Nat) (listed:Array Bool) (a:Act) (w:World),jZ listed=fuel -> Inv ops C Fl a0 listed a w -> wpAny P .any ops Q fuel listed a w:=by
 intro fuel
 induction fuel with
 | zero =>
   intro listed a w hu h
   have hall:∀ i,i < listed.size -> listed.getD i false=true:=by
    intro i hi;unfold jZ at hu;have:=List.filter_eq_nil_iff.1 (List.eq_nil_of_length_eq_zero hu) listed[i] (by simp);simpa [Array.getD,hi] using this
   refine ⟨?_,hend a w h.c h.agree fun i hi=>h.facts i (hall i (by rw [h.size];exact hi))⟩;unfold Region.ready;rw [List.filter_eq_nil_iff];intro i hi;rw [List.mem_range] at hi;have h1:=hall i (by rw [h.size];exact hi);have:i < listed.size:=by rw [h.size];exact hi
   simp [Array.getD,this] at h1 ⊢;simp [h1]
 | succ fuel ih =>
   intro listed a w hu h;refine ⟨fun hr=>hend a w h.c h.agree fun i hi=>h.facts i (qEp hst h.size hr i hi),?_⟩;intro i hi;unfold Region.ready at hi;rw [List.mem_filter,List.mem_range] at hi;obtain ⟨hilt,hr⟩:=hi;have ho:ops[i]?=some ops[i]:=Array.getElem?_eq_getElem hilt;rw [ho] at hr;simp only [Option.map_some,Option.getD_some,qXi,Bool.not_eq_true'] at hr
   have hun:listed[i]?=some false:=by
    have hlt:i < listed.size:=by rw [h.size];exact hilt
    have h1:=hr.1;rw [Array.getElem?_eq_getElem hlt];simp [Array.getD,hlt] at h1;rw [h1]
   have hready:∀ j ∈ zA ops[i],listed.getD j false=true:=by
    intro j hj;unfold zA at hj;obtain ⟨e,he,rfl⟩:=List.mem_map.1 hj;obtain ⟨he1,he2⟩:=List.mem_filter.1 he;have:=Array.all_eq_true_iff_forall_mem.1 hr.2 e (Array.mem_toList_iff.1 he1);rw [he2] at this;simpa using this
   have hfresh:∀ s,uZ ops i s=true -> a.tmps.getD s undef=a0.tmps.getD s undef:=by
    intro s hs;refine h.fresh s fun j hj=>?_;obtain ⟨o',h1,h2⟩:=Option.bind_eq_some_iff.1 hj;unfold uZ at hs;rw [qXb] at hs;have:=hs j (List.mem_range.2 (qXw.1 h1).1);rw [h1] at this;simp only [h2,bne_self_eq_false,Bool.false_or,Bool.or_eq_true,decide_eq_true_eq,List.contains_iff_mem] at this
    have hli:listed.getD i false=false:=by
     rw [qXn,hun];rfl
    cases hb:listed.getD j false with
    | false=>rfl
    | true =>
      rcases this with rfl | hm
      ·rw [hb] at hli;cases hli
      ·have:=h.closed j o' hb h1 i hm
       rw [this] at hli;cases hli
   have hdeps:=qDz.to _ (hop i hilt _ ho a w h.c hfresh) (fun j hj=>h.facts j (hready j hj));refine wpOp_mono ?_ hdeps;rintro a' w' ⟨v,rfl,hF,ht⟩;exact ih _ _ _ (by have:=yI hun;omega) (h.step hst hT ho hF ht hready)
def qEq (ops:Array Oper) (vs:Nat -> Value) (a0:Act):Nat -> Act
 | 0=>a0
 | n + 1=>(qEq ops vs a0 n).put (zQ ops n) (vs n)
theorem vT (vs:Nat -> Value):∀ n,(qEq ops vs a0 n).tmps.size=a0.tmps.size /\ (qEq ops vs a0 n).defers=a0.defers
 | 0=>⟨rfl,rfl⟩
 | n + 1=>⟨by rw [qEq,qEo];exact (vT vs n).1,by rw [qEq,qBl];exact (vT vs n).2⟩
theorem qAu (a:Act) (hst:qDt ops a0.tmps.size=true):∀ n s,(qEq ops (jU ops a) a0 n).tmps.getD s undef=if (∃ i,i < n /\ zQ ops i=some s) then a.tmps.getD s undef else a0.tmps.getD s undef
 | 0,s=>by simp [qEq]
 | n + 1,s=>by
   rw [qEq]
   cases hd:zQ ops n with
   | none =>
     show (qEq ops (jU ops a) a0 n).tmps.getD s undef=_;rw [qAu a hst n s];congr 1;refine propext ⟨fun ⟨i,h1,h2⟩=>⟨i,by omega,h2⟩,fun ⟨i,h1,h2⟩=>⟨i,?_,h2⟩⟩;by_cases e:i=n
     ·subst e;rw [hd] at h2;cases h2
     ·omega
   | some d =>
     have hlt:d < a0.tmps.size:=by
      obtain ⟨o,h1,h2⟩:=Option.bind_eq_some_iff.1 hd;exact ((jX hst h1).2 d h2).1
     rw [xS _ _ _ _ (by rw [(vT _ n).1];exact hlt),qAu a hst n s];by_cases e:s=d
     ·subst e
      rw [if_pos rfl,if_pos ⟨n,by omega,hd⟩];simp [jU,hd]
     ·rw [if_neg e]
      congr 1;refine propext ⟨fun ⟨i,h1,h2⟩=>⟨i,by omega,h2⟩,fun ⟨i,h1,h2⟩=>⟨i,?_,h2⟩⟩;by_cases e':i=n
      ·subst e';rw [hd] at h2;cases h2;exact absurd rfl e
      ·omega
theorem qMa (a:Act) (hst:qDt ops a0.tmps.size=true) (h:Agree ops a0 a):qEq ops (jU ops a) a0 ops.size=a:=by
 have h1:=vT (ops:=ops) (a0:=a0) (jU ops a) ops.size
 have h2:(qEq ops (jU ops a) a0 ops.size).tmps=a.tmps:=by
  refine Array.ext (h1.1.trans h.size.symm) fun s hs hs'=>?_;have:=qAu a hst ops.size s;simp only [Array.getD,hs,hs',dif_pos] at this;rw [Array.getInternal_eq_getElem] at this;rw [this];split
  ·simp
  ·rename_i hn
   have:=h.same s (by
    rw [Array.all_eq_true_iff_forall_mem];intro o ho;obtain ⟨i,hi,rfl⟩:=Array.mem_iff_getElem.1 ho;rw [bne_iff_ne]
    exact fun e=>hn ⟨i,hi,by simp [zQ,hi,e]⟩)
   simp only [Array.getD,hs',dif_pos] at this;exact this.symm
 cases hp:qEq ops (jU ops a) a0 ops.size
 cases a
 rw [hp] at h1 h2;have:=h1.2.trans h.defers.symm;simp_all
theorem xV.to {w:World} (vs:Nat -> Value):∀ (n k:Nat) (fs:List (Value -> World -> Prop)) (ds:List (Option Tmp)),fs.length=n -> ds.length=n -> (∀ i,i < n -> ds[i]?=some (zQ ops (k + i))) -> (∀ (i:Nat) (f:Value -> World -> Prop),fs[i]?=some f -> f (vs (k + i)) w) ->
    xV Q w fs ds (qEq ops vs a0 k) -> Q .normal (qEq ops vs a0 (k + n)) w
 | 0,k,[],[],_,_,_,_,h=>h
 | n + 1,k,f :: fs,d :: ds,h1,h2,hd,hf,h=>by
   have e:=hd 0 (by omega);simp at e
   have:=xV.to vs n (k + 1) fs ds (by simpa using h1) (by simpa using h2) (fun i hi=>by have:=hd (i + 1) (by omega);simpa [Nat.add_assoc,Nat.add_comm 1 i] using this) (fun i g hg=>by have:=hf (i + 1) g (by simpa using hg);simpa [Nat.add_assoc,Nat.add_comm 1 i] using this) (by
    rw [qEq,<- e]
    exact h (vs k) (hf 0 f rfl))
   rw [show k + (n + 1)=k + 1 + n from by omega];exact this
theorem qFy {id:Nat} {w0:World} (hm:P.follows .mixedOrders=true) (C:World -> Prop) (T:World -> World -> Prop) (Fl:List (Value -> World -> Prop)) (hn:Fl.length=ops.size) (hst:qDt ops a0.tmps.size=true)
    (hC0:C w0.drew) (hT:∀ w w',C w -> T w w' -> C w' /\ ∀ i v,qN Fl i v w -> qN Fl i v w')
    (hop:∀ i,i < ops.size -> zB P ops Q C T Fl a0 i)
    (hend:∀ w,C w -> xV Q w Fl (ops.toList.map (·.dst)) a0):(Code.region id ops true).wp P Q a0 w0:=by
 refine wp_region_any hm ?_
 refine qJ4 hst hT hop ?_ ops.size _ a0 _ ?_ ⟨by simp,⟨rfl,rfl,fun _ _=>rfl⟩,hC0,(fun j o hj=>by simp [Array.getD] at hj),fun _ _=>rfl,?_⟩
 ·intro a w hc ha hf
  rw [<- qMa a hst ha]
  have:=xV.to (Q:=Q) (ops:=ops) (a0:=a0) (w:=w) (jU ops a) ops.size 0 Fl (ops.toList.map (·.dst)) hn (by simp) (fun i hi=>by simp [zQ,hi]) (fun i f hi=>by
   have hlt:i < ops.size:=by rw [<- hn];exact (qXt.1 hi).1
   have:=hf i hlt;rw [vS hi] at this
   simpa using this) (hend w hc)
  simpa using this
 ·simp [jZ]
 ·intro i hi
  simp [Array.getD] at hi
def qB (f:Value -> World -> Prop):Prop:=∀ v a b,f v a -> Below a.heap.size a b -> f v b
theorem qB.is (x:Value):qB (Is x):=fun _ _ _ h _=>h
def jM (k:IntKind) (xs:List Int):Value -> World -> Prop:=fun v w=>∃ ao cap,v=.slice ao xs.length cap /\ Rd k w ao xs.length cap xs
theorem qB.rd (k:IntKind) (xs:List Int):qB (jM k xs):=fun _ _ _ ⟨ao,cap,e,h⟩ hb=>⟨ao,cap,e,h.below hb⟩
def qBm:List (Value -> World -> Prop) -> Prop
 | []=>True
 | f :: r=>qB f /\ qBm r
theorem qBm.at:∀ {Fl:List (Value -> World -> Prop)},qBm Fl -> ∀ i,qB (qN Fl i)
 | [],_,i=>by simp [qN,qB]
 | f :: r,h,0=>h.1
 | f :: r,h,i + 1=>by
   have:=qBm.at h.2 i;simpa [qN] using this
def qMb (P:Program) (ops:Array Oper) (Q:Exit -> Act -> World -> Prop) (C:World -> Prop) (T:World -> World -> Prop) (Fl:List (Value -> World -> Prop)) (a0:Act):List Nat -> Prop
 | []=>True
 | i :: r=>zB P ops Q C T Fl a0 i /\ qMb P ops Q C T Fl a0 r
theorem qMb.at:∀ {l:List Nat},qMb P ops Q C T Fl a0 l -> ∀ i ∈ l,zB P ops Q C T Fl a0 i
 | [],_,i,h=>by cases h
 | j :: r,h,i,hi=>by
   rcases List.mem_cons.1 hi with rfl | hi
   ·exact h.1
   ·exact qMb.at h.2 i hi
def u4 (a b:World):Prop:=Below a.heap.size a b
def qOv (ops:Array Oper) (Fl:List (Value -> World -> Prop)) (o:Oper):List (Option Tmp × (Value -> World -> Prop)):=(zA o).map fun j=>(zQ ops j,qN Fl j)
def qI1 (ops:Array Oper) (o:Oper):Option (Option Tmp × Bool):=o.guard.map fun g=>(zQ ops g.1,g.2)
def zZ (a:Act) (d:Option Tmp):Value:=match d with | some d=>a.tmps.getD d undef | none=>undef
def qJ5 (a:Act) (w:World) (G:Prop):List (Option Tmp × (Value -> World -> Prop)) -> Prop
 | []=>G
 | (d,f) :: r=>f (zZ a d) w -> qJ5 a w G r
def qD1 (a:Act) (G:Prop):List (Tmp × Value) -> Prop
 | []=>G
 | (s,v) :: r=>a.tmps.getD s undef=v -> qD1 a G r
def qBn (P:Program) (o:Oper) (F:Value -> World -> Prop) (a:Act) (w:World):Prop :=
 (∃ v,(execOp a.eval o).run P w=.ok (.value v) w /\ F v w) ∨
 (∃ f args,(execOp a.eval o).run P w=.ok (.enter f args) w /\ Calls P f args w fun e w'=>∃ v,e=.returned v /\ F v w' /\ Below w.heap.size w w') ∨
 (∃ v w',(execOp a.eval o).run P w=.ok (.value v) w' /\ F v w' /\ Below w.heap.size w w')
def qFz (P:Program) (o:Oper) (F:Value -> World -> Prop) (a:Act) (w:World):Option (Option Tmp × Bool) -> Prop
 | none=>qBn P o F a w
 | some (d,b)=>(zZ a d=.bool b /\ qBn P o F a w) ∨ (zZ a d ≠ .bool b /\ F undef w)
def qCt (P:Program) (C:World -> Prop) (fl:List (Tmp × Value)) (o:Oper) (F:Value -> World -> Prop) (gd:Option (Option Tmp × Bool)) (dl:List (Option Tmp × (Value -> World -> Prop))):Prop :=
 ∀ a w,C w -> qD1 a (qJ5 a w (qFz P o F a w gd) dl) fl
theorem qEr (a:Act) (j:Nat):zZ a (zQ ops j)=jU ops a j:=by unfold zZ jU;rfl
theorem qD1.to {a:Act} {G:Prop}:∀ {fl:List (Tmp × Value)},qD1 a G fl -> (∀ x ∈ fl,a.tmps.getD x.1 undef=x.2) -> G
 | [],h,_=>h
 | x :: r,h,hf=>qD1.to (fl:=r) (h (hf x (by simp))) fun y hy=>hf y (by simp [hy])
theorem qJ5.to {a:Act} {w:World} {G:Prop}:∀ {js:List Nat},qJ5 a w G (js.map fun j=>(zQ ops j,qN Fl j)) -> qDz ops Fl a w G js
 | [],h=>h
 | j :: js,h=>fun hf=>qJ5.to (h (by rw [qEr];exact hf))
theorem qBn.wp {i:Nat} {o:Oper} {a:Act} {w:World} (d:Tmp) (hd:o.dst=some d) (h:qBn P o (qN Fl i) a w) (K:Act -> World -> Prop)
    (hK:∀ a' w',(∃ v,a'=a.put o.dst v /\ qN Fl i (if o.dst=none then undef else v) w' /\ u4 w w') -> K a' w'):o.wp P a w K Q:=by
 unfold Oper.wp
 rcases h with ⟨v,hr,hF⟩ | ⟨f,args,hr,hc⟩ | ⟨v,w',hr,hF,hb⟩
 ·rw [hr]
  exact hK _ _ ⟨v,rfl,by simpa [hd] using hF,qXh _ _⟩
 ·rw [hr,Oper.upon_enter]
  refine hc.mono ?_;rintro e w' ⟨v,rfl,hF,hb⟩;exact hK _ _ ⟨v,rfl,by simpa [hd] using hF,hb⟩
 ·rw [hr]
  exact hK _ _ ⟨v,rfl,by simpa [hd] using hF,hb⟩
theorem qCu {o:Oper} (h:o.guard=none) (f:Nat -> Option Bool):Region.wanted o f=true:=by simp [Region.wanted,h]
theorem qCv {a:Act} {j:Nat} {b:Bool}:yielded ops a.tmps j=some b ↔ jU ops a j=.bool b:=by
 unfold jU zQ yielded
 cases hd:(ops[j]?).bind (·.dst) with
 | none =>
   simp;intro h
   cases h
 | some d =>
   simp only [Option.bind_some,qXn]
   cases h:a.tmps[d]? with
   | none =>
     simp;intro h
     cases h
   | some u=>cases u <;> simp
theorem qCt.rule {i:Nat} {o:Oper} {d:Tmp} {fl:List (Tmp × Value)} (hfl:∀ x ∈ fl,uZ ops i x.1=true /\ a0.tmps.getD x.1 undef=x.2) (ho:ops[i]?=some o) (hd:o.dst=some d)
    {F:Value -> World -> Prop} (hF:qN Fl i=F) {gd:Option (Option Tmp × Bool)} (hg:qI1 ops o=gd) {dl:List (Option Tmp × (Value -> World -> Prop))} (hdl:qOv ops Fl o=dl) (h:qCt P C fl o F gd dl) :
    zB P ops Q C u4 Fl a0 i:=by
 subst hF hg hdl
 intro o' ho' a w hC hA
 rw [ho] at ho'
 cases ho'
 have h1:=qD1.to (h a w hC) (fun x hx=>(hA x.1 (hfl x hx).1).trans (hfl x hx).2)
 unfold qOv at h1
 refine qDz.imp (qJ5.to h1) ?_
 intro hgd
 refine wpOp_step ho fun K hK=>?_
 unfold qFz qI1 at hgd
 cases hgu:o.guard with
 | none =>
   rw [hgu] at hgd;rw [if_pos (qCu hgu _)];exact qBn.wp d hd hgd K hK
 | some g =>
   obtain ⟨j,b⟩:=g;rw [hgu] at hgd;rcases hgd with ⟨hb',hrun⟩ | ⟨hb',hrun⟩
   ·rw [qEr] at hb'
    rw [if_pos (by simp [Region.wanted,hgu,qCv.2 hb'])];exact qBn.wp d hd hrun K hK
   ·rw [qEr] at hb'
    rw [if_neg (by
     simp only [Region.wanted,hgu,beq_iff_eq]
     exact fun h=>hb' (qCv.1 h))]
    exact hK _ _ ⟨undef,rfl,by simpa [hd] using hrun,qXh _ _⟩
def uL (ops:Array Oper) (a0:Act) (i:Nat):List (Tmp × Value) -> Prop
 | []=>True
 | (s,v) :: r=>(uZ ops i s=true /\ a0.tmps.getD s undef=v) /\ uL ops a0 i r
theorem uL.to {i:Nat}:∀ {fl:List (Tmp × Value)},uL ops a0 i fl -> ∀ x ∈ fl,uZ ops i x.1=true /\ a0.tmps.getD x.1 undef=x.2
 | [],_,x,hx=>by cases hx
 | y :: r,h,x,hx=>by
   rcases List.mem_cons.1 hx with rfl | hx
   ·exact h.1
   ·exact uL.to h.2 x hx
def qEs (P:Program) (ops:Array Oper) (C:World -> Prop) (Fl:List (Value -> World -> Prop)) (a0:Act) (i:Nat):Prop :=
 ∃ o d F gd dl fl,ops[i]?=some o /\ o.dst=some d /\ qN Fl i=F /\ qI1 ops o=gd /\ qOv ops Fl o=dl /\ uL ops a0 i fl /\ qCt P C fl o F gd dl
def yS (P:Program) (ops:Array Oper) (C:World -> Prop) (Fl:List (Value -> World -> Prop)) (a0:Act):List Nat -> Prop
 | []=>True
 | i :: r=>qEs P ops C Fl a0 i /\ yS P ops C Fl a0 r
theorem rq {i:Nat} {o:Oper} {d:Tmp} (F:Value -> World -> Prop) (gd:Option (Option Tmp × Bool)) (dl:List (Option Tmp × (Value -> World -> Prop))) (fl:List (Tmp × Value)) (h6:uL ops a0 i fl) (h7:qCt P C fl o F gd dl)
    (h1:ops[i]?=some o:=by exact rfl) (h2:o.dst=some d:=by exact rfl) (h3:qN Fl i=F:=by exact rfl) (h4:qI1 ops o=gd:=by exact rfl) (h5:qOv ops Fl o=dl:=by exact rfl):qEs P ops C Fl a0 i:=⟨o,d,F,gd,dl,fl,h1,h2,h3,h4,h5,h6,h7⟩
theorem yS.to:∀ {l:List Nat},yS P ops C Fl a0 l -> qMb P ops Q C u4 Fl a0 l
 | [],_=>trivial
 | i :: r,h=>by
   obtain ⟨o,d,F,gd,dl,fl,h1,h2,h3,h4,h5,h6,h7⟩:=h.1;exact ⟨qCt.rule h6.to h1 h2 h3 h4 h5 h7,yS.to h.2⟩
theorem qCw {id:Nat} {w0:World} (hm:P.follows .mixedOrders=true) (Fl:List (Value -> World -> Prop)) (l:List Nat) (hn:Fl.length=ops.size) (hst:qDt ops a0.tmps.size=true) (hl:l=List.range ops.size)
    (hop:yS P ops (Below w0.heap.size w0) Fl a0 l) (hs:qBm Fl)
    (hend:∀ w,Below w0.heap.size w0 w -> xV Q w Fl (ops.toList.map (·.dst)) a0):(Code.region id ops true).wp P Q a0 w0:=by
 refine qFy hm (Below w0.heap.size w0) u4 Fl hn hst (qXh _ _).drew ?_ ?_ hend
 ·intro w w' hc ht
  exact ⟨hc.trans (Below.mono ht hc.size),fun i v hf=>hs.at i v w w' hf ht⟩
 ·intro i hi
  subst hl;exact (yS.to hop).at i (List.mem_range.2 hi)
end
open Go.RowKit
def j4 (n m:Nat):Array Bool:=Array.replicate n true ++ Array.replicate m false
theorem qCx (n m j:Nat) (d:Bool):(j4 n m).getD j d=if j < n then true else if j < n + m then false else d:=by
 unfold j4;rw [qXn,Array.getElem?_append];simp only [Array.size_replicate,Array.getElem?_replicate];by_cases h:j < n
 ·simp [h]
 ·rw [if_neg h,if_neg h]
  by_cases h2:j < n + m
  ·rw [if_pos h2,if_pos (by omega)];rfl
  ·rw [if_neg h2,if_neg (by omega)];rfl
theorem qCy {listed:Array Bool} {n m:Nat} (hs:listed.size=n + m) (hh:∀ i,i < n -> listed.getD i false=true) (ht:∀ t,n <= t -> t < n + m -> listed.getD t true=false):listed=j4 n m:=by
 refine Array.ext (by simp [j4,hs]) fun i hi hi'=>?_;have h1:=qCx n m i false;have e1:(j4 n m).getD i false=(j4 n m)[i]:=by simp [Array.getD,hi']
 rw [<- e1,h1];by_cases h:i < n
 ·rw [if_pos h]
  have:=hh i h;simpa [Array.getD,hi] using this
 ·rw [if_neg h,if_pos (by omega)]
  have:=ht i (by omega) (by omega);simpa [Array.getD,hi] using this
theorem qEt (n m:Nat):jZ (j4 n m)=m:=by
 unfold jZ j4;simp
section
variable {P:Program} {ops:Array Oper} {Q:Exit -> Act -> World -> Prop} {C:World -> Prop} {T:World -> World -> Prop} {Fl:List (Value -> World -> Prop)} {a0:Act}
theorem Inv.head {listed:Array Bool} {a:Act} {w:World} {n:Nat} (h:Inv ops C Fl a0 listed a w) (ht:∀ t,n <= t -> t < ops.size -> listed.getD t true=false):HeadInv .any ops n listed :=
 ⟨h.size,fun j oj hj hl e he hb=>h.closed j oj hl hj e.on (by
  unfold zA
  exact List.mem_map.2 ⟨e,List.mem_filter.2 ⟨Array.mem_toList_iff.2 he,hb⟩,rfl⟩),ht⟩
theorem qMc {listed:Array Bool} {a:Act} {w:World} {n:Nat} (hst:qDt ops a0.tmps.size=true) (h:Inv ops C Fl a0 listed a w) (ht:∀ t,n <= t -> t < ops.size -> listed.getD t true=false) :
    qEq ops (jU ops a) a0 n=a:=by
 have h1:=vT (ops:=ops) (a0:=a0) (jU ops a) n
 have h2:(qEq ops (jU ops a) a0 n).tmps=a.tmps:=by
  refine Array.ext (h1.1.trans h.agree.size.symm) fun s hs hs'=>?_;have:=qAu a hst n s;simp only [Array.getD,hs,hs',dif_pos] at this;rw [Array.getInternal_eq_getElem] at this;rw [this];split
  ·simp
  ·rename_i hno
   have:=h.fresh s (fun j hj=>by
    have hjn:n <= j:=by
     rcases Nat.lt_or_ge j n with g | g
     ·exact absurd ⟨j,g,hj⟩ hno
     ·exact g
    have hlt:j < ops.size:=by
     obtain ⟨o,h1,h2⟩:=Option.bind_eq_some_iff.1 hj;exact (qXw.1 h1).1
    exact getD_both (ht j hjn hlt))
   simp only [Array.getD,hs',dif_pos] at this;exact this.symm
 cases hp:qEq ops (jU ops a) a0 n
 cases a
 rw [hp] at h1 h2
 have:=h1.2.trans h.agree.defers.symm
 simp_all
theorem vU {n:Nat} (hst:qDt ops a0.tmps.size=true) (hT:∀ w w',C w -> T w w' -> C w' /\ ∀ i v,qN Fl i v w -> qN Fl i v w')
    (hs:Region.sinkB .any ops n=true) (hc:Region.chainB .any ops n=true) (hn:n < ops.size) (hq:Region.seqB .any ops (ops.size - n) n (j4 n (ops.size - n))=true)
    (hop:∀ i,i < n -> zB P ops Q C T Fl a0 i)
    (hend:∀ a w,C w -> qEq ops (jU ops a) a0 n=a -> (∀ i,i < n -> qN Fl i (jU ops a i) w) -> wpList P ops Q (ops.toList.drop n) a w) :
    ∀ (f:Nat) (listed:Array Bool) (a:Act) (w:World),jZ listed=f + (ops.size - n) -> (∀ t,n <= t -> t < ops.size -> listed.getD t true=false) -> Inv ops C Fl a0 listed a w -> wpAny P .any ops Q (f + (ops.size - n)) listed a w:=by
 have hsz:n + (ops.size - n)=ops.size:=by omega
 intro f
 induction f with
 | zero =>
   intro listed a w hu ht h
   have hh:∀ i,i < n -> listed.getD i false=true:=by
    intro i hi
    cases hb:listed.getD i false with
    | true=>rfl
    | false =>
      exfalso;have hil:i < listed.size:=by rw [h.size];omega
      have hi':listed[i]?=some false:=by
       rw [Array.getElem?_eq_getElem hil];simp [Array.getD,hil] at hb;rw [hb]
      have e1:=yI hi'
      have hle:ops.size - n <= jZ (listed.setIfInBounds i true):=by
       unfold jZ;rw [Array.toList_setIfInBounds];have hlen:listed.toList.length=n + (ops.size - n):=by rw [Array.length_toList,h.size,hsz]
       have hd:(listed.toList.set i true).drop n=List.replicate (ops.size - n) false:=by
        refine List.ext_getElem (by simp [h.size]) fun j h1 h2=>?_;simp only [List.getElem_drop,List.getElem_replicate];rw [List.getElem_set_ne (by omega)];have hjs:n + j < ops.size:=by simp at h2;omega
        have:=ht (n + j) (by omega) hjs;have hjl:n + j < listed.size:=by rw [h.size];exact hjs
        simpa [Array.getD,hjl] using this
       have:=List.take_append_drop n (listed.toList.set i true);rw [<- this,List.filter_append,qW7,hd];simp
      omega
   have he:=qCy (n:=n) (m:=ops.size - n) (by rw [h.size,hsz]) hh (fun t h1 h2=>ht t h1 (by omega));have:=hend a w h.c (qMc hst h ht) fun i hi=>h.facts i (hh i hi);rw [Nat.zero_add];have:=wpAny_of_seq (md:=.any) (Q':=Q) (ops.toList.drop n) n listed a w (fun j=>by simp [List.getElem?_drop]) (by rw [he];simpa using hq) this;simpa using this
 | succ f ih =>
   intro listed a w hu ht h;rw [show f + 1 + (ops.size - n)=(f + (ops.size - n)) + 1 by omega];have hinv:=h.head ht
   have hex:∃ i,i < n /\ listed.getD i true=false:=by
    refine Classical.byContradiction fun hno=>?_
    have hh:∀ i,i < n -> listed.getD i false=true:=by
     intro i hi;have hil:i < listed.size:=by rw [h.size];omega
     cases hb:listed.getD i false with
     | true=>rfl
     | false=>exact absurd ⟨i,hi,getD_in hil hb⟩ hno
    have he:=qCy (n:=n) (m:=ops.size - n) (by rw [h.size,hsz]) hh (fun t h1 h2=>ht t h1 (by omega));rw [he,qEt] at hu;omega
   obtain ⟨i0,hi0,hun0⟩:=hex;refine ⟨fun hr=>?_,?_⟩
   ·have:=qEp hst h.size hr i0 (by omega)
    rw [getD_both hun0] at this
    cases this
   ·intro i hi
    have hin:i < n:=by
     rcases Nat.lt_or_ge i n with g | g
     ·exact g
     ·exact absurd hi (tail_waits hs hc hn hinv _ i0 rfl hi0 hun0 i g)
    have hi':=hi;unfold Region.ready at hi;rw [List.mem_filter,List.mem_range] at hi;obtain ⟨hilt,hr⟩:=hi;have ho:ops[i]?=some ops[i]:=Array.getElem?_eq_getElem hilt;rw [ho] at hr;simp only [Option.map_some,Option.getD_some,qXi,Bool.not_eq_true'] at hr
    have hun:listed[i]?=some false:=by
     have hlt:i < listed.size:=by rw [h.size];exact hilt
     have h1:=hr.1;rw [Array.getElem?_eq_getElem hlt];simp [Array.getD,hlt] at h1;rw [h1]
    have hready:∀ j ∈ zA ops[i],listed.getD j false=true:=by
     intro j hj;unfold zA at hj;obtain ⟨e,he,rfl⟩:=List.mem_map.1 hj;obtain ⟨he1,he2⟩:=List.mem_filter.1 he;have:=Array.all_eq_true_iff_forall_mem.1 hr.2 e (Array.mem_toList_iff.1 he1);rw [he2] at this;simpa using this
    have hfresh:∀ s,uZ ops i s=true -> a.tmps.getD s undef=a0.tmps.getD s undef:=by
     intro s hs;refine h.fresh s fun j hj=>?_;obtain ⟨o',h1,h2⟩:=Option.bind_eq_some_iff.1 hj;unfold uZ at hs;rw [qXb] at hs;have:=hs j (List.mem_range.2 (qXw.1 h1).1);rw [h1] at this;simp only [h2,bne_self_eq_false,Bool.false_or,Bool.or_eq_true,decide_eq_true_eq,List.contains_iff_mem] at this
     have hli:listed.getD i false=false:=by
      rw [qXn,hun];rfl
     cases hb:listed.getD j false with
     | false=>rfl
     | true =>
       rcases this with rfl | hm
       ·rw [hb] at hli;cases hli
       ·have:=h.closed j o' hb h1 i hm
        rw [this] at hli;cases hli
    have hdeps:=qDz.to _ (hop i hin _ ho a w h.c hfresh) (fun j hj=>h.facts j (hready j hj));refine wpOp_mono ?_ hdeps;rintro a' w' ⟨v,rfl,hF,htt⟩;exact ih _ _ _ (by have:=yI hun;omega) (HeadInv.set hinv hi' hin).tail (h.step hst hT ho hF htt hready)
theorem qD (n:Nat) {id:Nat} {w0:World} (hm:P.follows .mixedOrders=true) (Fl:List (Value -> World -> Prop)) (l:List Nat) (hnf:Fl.length=n) (hst:qDt ops a0.tmps.size=true) (hl:l=List.range n)
    (htl:(Region.sinkB .any ops n && Region.chainB .any ops n && decide (n < ops.size) && Region.seqB .any ops (ops.size - n) n (j4 n (ops.size - n)))=true)
    (hop:yS P ops (Below w0.heap.size w0) Fl a0 l) (hs:qBm Fl)
    (hend:∀ w,Below w0.heap.size w0 w -> xV (fun _ a w=>wpList P ops Q (ops.toList.drop n) a w) w Fl ((ops.toList.take n).map (·.dst)) a0):(Code.region id ops true).wp P Q a0 w0:=by
 simp only [qXi,decide_eq_true_eq] at htl
 obtain ⟨⟨⟨h1,h2⟩,h3⟩,h4⟩:=htl
 subst hl
 refine wp_region_any hm ?_
 have:=vU (P:=P) (Q:=Q) (C:=Below w0.heap.size w0) (T:=u4) (Fl:=Fl) (a0:=a0) hst (fun w w' hc ht=>⟨hc.trans (Below.mono ht hc.size),fun i v hf=>hs.at i v w w' hf ht⟩) h1 h2 h3 h4
  (fun i hi=>(yS.to (Q:=Q) hop).at i (List.mem_range.2 hi)) (fun a w hc ha hf=>by
   have:=xV.to (Q:=fun _ a w=>wpList P ops Q (ops.toList.drop n) a w) (ops:=ops) (a0:=a0) (w:=w) (jU ops a) n 0 Fl ((ops.toList.take n).map (·.dst)) hnf (by simp;omega) (fun i hi=>by simp [zQ,hi,show i < ops.size by omega]) (fun i f hi=>by
    have hlt:i < n:=by rw [<- hnf];exact (qXt.1 hi).1
    have:=hf i hlt;rw [vS hi] at this
    simpa using this) (hend w hc)
   rw [Nat.zero_add,ha] at this
   exact this) n (Array.replicate ops.size false) a0 w0.drew (by simp [jZ];omega) (fun t _ ht=>getD_in (by simpa using ht) (getD_replicate_false _ _))
   ⟨by simp,⟨rfl,rfl,fun _ _=>rfl⟩,(qXh _ _).drew,(fun j o hj=>by simp [Array.getD] at hj),fun _ _=>rfl,fun i hi=>by simp [Array.getD] at hi⟩
 rw [show n + (ops.size - n)=ops.size by omega] at this
 exact this
end
open Go.RowKit
def qWn (a b:World) (k:Nat):Prop:=b.heap[k]?=a.heap[k]? ∨ ∃ c e f f',a.heap[k]?=some (.cells c e f) /\ b.heap[k]?=some (.cells c e f')
structure SoftT (B:Nat) (a b:World):Prop where
 below:Below B a b
 soft:∀ k,k < a.heap.size -> qWn a b k
section
variable {B:Nat} {a b:World}
theorem SoftT.cell (h:SoftT B a b) {x:Addr} (hx:x.block < a.heap.size):b.cell? x=a.cell? x:=by
 rcases h.soft x.block hx with e | ⟨c,e,f,f',h1,h2⟩
 ·exact World.cell?_of_block e
 ·unfold World.cell?
  rw [h1,h2]
theorem SoftT.of (h:Below a.heap.size a b) (hB:B <= a.heap.size):SoftT B a b:=⟨h.mono hB,fun k hk=>.inl (h.block k hk)⟩
end
def qJ (f:Value -> World -> Prop):Prop:=∀ B v a b,f v a -> SoftT B a b -> f v b
theorem qJ.is (x:Value):qJ (Is x):=fun _ _ _ _ h _=>h
theorem qJ.rd (k:IntKind) (xs:List Int):qJ (jM k xs):=fun _ _ _ _ ⟨ao,cap,e,h⟩ hb =>
 ⟨ao,cap,e,h.len,h.le,h.max,h.nil,fun ad ha i hi=>by
  have hc:=h.cell ad ha i hi
  exact (hb.cell (qXc _ _ hc)).trans hc,h.wf⟩
def IsP {α:Type} (s:Nat) (R:World -> List Value -> α -> Prop) (xs:List α):Value -> World -> Prop:=fun v w=>∃ ao cap,v=.slice ao xs.length cap /\ RdG s R w ao xs.length cap xs
theorem qI2 {α:Type} {s:Nat} {R:World -> List Value -> α -> Prop} (hR:∀ w w' cs x,R w cs x -> R w' cs x) {w w':World} {ao:Option Addr} {n cap:Nat} {xs:List α} (h:RdG s R w ao n cap xs) (hc:∀ x:Addr,x.block < w.heap.size -> w'.cell? x=w.cell? x):RdG s R w' ao n cap xs :=
 ⟨h.len,h.le,h.max,h.nil,fun i x hi=>by
  obtain ⟨b,off,cs,e,hl,hr,hcl⟩:=h.cell i x hi
  exact ⟨b,off,cs,e,hl,hR _ _ _ _ hr,fun j v hj=>(hc _ (qXc _ _ (hcl j v hj))).trans (hcl j v hj)⟩⟩
theorem qRl {α:Type} {s:Nat} {R:World -> List Value -> α -> Prop} (hR:∀ w w' cs x,R w cs x -> R w' cs x) {w:World} {ao:Option Addr} {n cap:Nat} {xs:List α} (h:RdG s R w ao n cap xs):Rx w fun w=>RdG s R w ao n cap xs :=
 fun _ h'=>qI2 hR h fun x hx=>World.cell?_of_block (h' x.block hx)
theorem qJ.p {α:Type} {s:Nat} {R:World -> List Value -> α -> Prop} (hR:∀ w w' cs x,R w cs x -> R w' cs x) (xs:List α):qJ (IsP s R xs):=fun _ _ _ _ ⟨ao,cap,e,h⟩ hb=>⟨ao,cap,e,qI2 hR h fun _ hx=>hb.cell hx⟩
def qSf (B:Nat) (E:TypeId) (cs:List Value):Value -> World -> Prop:=fun v w=>∃ q f,v=.slice (some ⟨q,0,none⟩) cs.length cs.length /\ B <= q /\ w.heap[q]?=some (.cells cs.toArray E f)
theorem qJ.lit (B:Nat) (E:TypeId) (cs:List Value):qJ (qSf B E cs):=by
 rintro B' v a b ⟨q,f,e,hq,hc⟩ hb
 have hlt:q < a.heap.size:=by
  rcases Nat.lt_or_ge q a.heap.size with h | h
  ·exact h
  ·rw [Array.getElem?_eq_none h] at hc;cases hc
 rcases hb.soft q hlt with e1 | ⟨c,e2,f1,f2,h1,h2⟩
 ·exact ⟨q,f,e,hq,e1.trans hc⟩
 ·rw [h1] at hc
  simp only [Option.some.injEq,Obj.cells.injEq] at hc;obtain ⟨rfl,rfl,rfl⟩:=hc;exact ⟨q,f2,e,hq,h2⟩
theorem qRm {w:World} {q:Nat} {E:TypeId} {f:Nat × Nat} (k:IntKind) (xs:List Int) (h:w.heap[q]?=some (.cells (xs.map (Value.int k)).toArray E f)) (hn:xs.length <= maxLen) (hw:∀ x ∈ xs,(Lit.int k x).wf=true):Rd k w (some ⟨q,0,none⟩) xs.length xs.length xs:=by
 refine ⟨rfl,qW8 _,hn,(fun h=>by cases h),fun ad ha i hi=>?_,hw⟩
 cases ha
 rw [Addr.add_lit,Nat.zero_add];unfold World.cell?;dsimp only;rw [h];simp [hi]
def qCz:List (Value -> World -> Prop) -> Prop
 | []=>True
 | f :: r=>qJ f /\ qCz r
theorem qCz.at:∀ {Fl:List (Value -> World -> Prop)},qCz Fl -> ∀ i,qJ (qN Fl i)
 | [],_,i=>by simp [qN,qJ]
 | f :: r,h,0=>h.1
 | f :: r,h,i + 1=>by
   have:=qCz.at h.2 i;simpa [qN] using this
section
variable {P:Program} {ops:Array Oper} {Q:Exit -> Act -> World -> Prop} {C:World -> Prop} {T T':World -> World -> Prop} {Fl:List (Value -> World -> Prop)} {a0:Act}
theorem zB.turn {i:Nat} (h:zB P ops Q C T Fl a0 i) (ht:∀ w w',C w -> T w w' -> T' w w'):zB P ops Q C T' Fl a0 i:=by
 intro o ho a w hC hA;refine qDz.imp (h o ho a w hC hA) fun hw=>wpOp_mono ?_ hw;rintro a' w' ⟨v,e,hF,hT⟩;exact ⟨v,e,hF,ht w w' hC hT⟩
theorem zB.special {i j d:Nat} {o:Oper} (ho:ops[i]?=some o) (hg:o.guard=none) (hd:o.dst=some d) (hdep:zA o=[j])
    (h:∀ a w,C w -> qN Fl j (jU ops a j) w -> ∃ v w',(execOp a.eval o).run P w=.ok (.value v) w' /\ qN Fl i v w' /\ T w w'):zB P ops Q C T Fl a0 i:=by
 intro o' ho' a w hC _
 rw [ho] at ho'
 cases ho'
 rw [hdep]
 intro hf
 refine wpOp_step ho fun K hK=>?_
 rw [if_pos (qCu hg _)]
 unfold Oper.wp
 obtain ⟨v,w',hr,hF,hT⟩:=h a w hC hf
 rw [hr]
 exact hK _ _ ⟨v,rfl,by simpa [hd] using hF,hT⟩
theorem yS.one:∀ {l:List Nat},yS P ops C Fl a0 l -> ∀ i ∈ l,zB P ops Q C u4 Fl a0 i:=fun h i hi=>(yS.to h).at i hi
theorem qAh (n:Nat) {id:Nat} {w0:World} (hm:P.follows .mixedOrders=true) (Fl:List (Value -> World -> Prop)) (sp:Nat) (l:List Nat) (hnf:Fl.length=n) (hst:qDt ops a0.tmps.size=true) (hl:∀ i,i < n -> i=sp ∨ i ∈ l)
    (htl:(Region.sinkB .any ops n && Region.chainB .any ops n && decide (n < ops.size) && Region.seqB .any ops (ops.size - n) n (j4 n (ops.size - n)))=true)
    (hop:yS P ops (Below w0.heap.size w0) Fl a0 l) (hsp:zB P ops Q (Below w0.heap.size w0) (SoftT w0.heap.size) Fl a0 sp) (hs:qCz Fl)
    (hend:∀ w,Below w0.heap.size w0 w -> xV (fun _ a w=>wpList P ops Q (ops.toList.drop n) a w) w Fl ((ops.toList.take n).map (·.dst)) a0):(Code.region id ops true).wp P Q a0 w0:=by
 simp only [qXi,decide_eq_true_eq] at htl
 obtain ⟨⟨⟨h1,h2⟩,h3⟩,h4⟩:=htl
 refine wp_region_any hm ?_
 have:=vU (P:=P) (Q:=Q) (C:=Below w0.heap.size w0) (T:=SoftT w0.heap.size) (Fl:=Fl) (a0:=a0) hst (fun w w' hc ht=>⟨hc.trans ht.below,fun i v hf=>hs.at i _ v w w' hf ht⟩) h1 h2 h3 h4
  (fun i hi=>by
   rcases hl i hi with rfl | hi'
   ·exact hsp
   ·exact (yS.one (Q:=Q) hop i hi').turn fun w w' hc ht=>SoftT.of ht hc.size) (fun a w hc ha hf=>by
   have:=xV.to (Q:=fun _ a w=>wpList P ops Q (ops.toList.drop n) a w) (ops:=ops) (a0:=a0) (w:=w) (jU ops a) n 0 Fl ((ops.toList.take n).map (·.dst)) hnf (by simp;omega) (fun i hi=>by simp [zQ,hi,show i < ops.size by omega]) (fun i f hi=>by
    have hlt:i < n:=by rw [<- hnf];exact (qXt.1 hi).1
    have:=hf i hlt;rw [vS hi] at this
    simpa using this) (hend w hc)
   rw [Nat.zero_add,ha] at this
   exact this) n (Array.replicate ops.size false) a0 w0.drew (by simp [jZ];omega) (fun t _ ht=>getD_in (by simpa using ht) (getD_replicate_false _ _))
   ⟨by simp,⟨rfl,rfl,fun _ _=>rfl⟩,(qXh _ _).drew,(fun j o hj=>by simp [Array.getD] at hj),fun _ _=>rfl,fun i hi=>by simp [Array.getD] at hi⟩
 rw [show n + (ops.size - n)=ops.size by omega] at this
 exact this
end
theorem qI3 {P:Program} (t E:TypeId) (ht:P.underlying t=some (.slice E)) (he:P.underlying E=some (.int .u8)) (w:World) (q n cap:Nat) (cs:Array Value) (f:Nat × Nat) (hq:w.heap[q]?=some (.cells cs E f)) :
    ∃ w' f',(convert t t (.slice (some ⟨q,0,none⟩) n cap)).run P w=.ok (.slice (some ⟨q,0,none⟩) n cap) w' /\ w'.os=w.os /\ w'.tape=w.tape /\ w'.output=w.output /\ w'.heap.size=w.heap.size /\ (∀ k,k ≠ q -> w'.heap[k]?=w.heap[k]?) /\ w'.heap[q]?=some (.cells cs E f'):=by
 have hlt:q < w.heap.size:=by
  rcases Nat.lt_or_ge q w.heap.size with h | h
  ·exact h
  ·rw [Array.getElem?_eq_none h] at hq;cases hq
 have hsh:w.shape? q=some (E,cs.size):=by simp [World.shape?,hq]
 refine ⟨w.freeze ⟨q,cs.size,none⟩ 1,(if f.1 == f.2 then (cs.size,cs.size + 1) else (min f.1 cs.size,max f.2 (cs.size + 1))),?_,rfl,rfl,rfl,?_,fun k hk=>?_,?_⟩
 ·simp [convert,run_underlying ht,run_underlying he,markStringish,hsh]
 ·simp [World.freeze]
 ·simp [World.freeze,Array.getElem?_modify,Ne.symm hk]
 ·obtain ⟨lo,hi⟩:=f
  simp [World.freeze,Array.getElem?_modify,hq]
end Go.Proofs.YtbkofpljchkkaaaGreat
