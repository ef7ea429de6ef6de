/- Words: WaLongM. -/
import Derived.Deep.AppendLies
import Derived.Laws.MakeOwn
import Derived.Laws.OwnMore
import Derived.Test.YtbkofpljchkkaaaGreatWaManyM
namespace Go.Proofs.YtbkofpljchkkaaaGreat
open Go.RowKit
section
variable {α:Type} {E:TypeId} {s B:Nat} {R:World -> List Value -> α -> Prop} {w:World} {v:Value} {xs:List α}
theorem OwnG.drew (h:OwnG E s R B w v xs):OwnG E s R B w.drew v xs:=h.below (B:=B) (show Below w.heap.size w w.drew from ⟨rfl,rfl,rfl,Nat.le_refl _,fun _ _=>rfl⟩) (Nat.le_refl _)
theorem step_append_g {P:Program} {ops:Array Oper} {o:Oper} {a:Act} {K:Act -> World -> Prop} {Q:Exit -> Act -> World -> Prop} {X:Prop} (hgd:o.guard=none) (so xo:Operand) (t:TypeId)
    (ho:o.op=.call { callee:=.builtin .append,args:=#[so,xo],argTypes:=#[t,t] })
    (bytes:Nat) (z:Value) (ht:P.underlying t=some (.slice E)) (hi:(P.info? E).map (fun i=>(i.zero,i.size,i.bytes))=some (some z,s,bytes)) (hzs:z.cells.size=s) (hsz:0 < s)
    (hs:a.eval so=v) (h:OwnG E s R B w v xs) (hB:B <= w.heap.size)
    (q:Nat) (cs:List Value) (hx:a.eval xo=.slice (some ⟨q,0,none⟩) 1 1) (hcs:cs.length=s) (hnews:∀ j u,cs[j]?=some u -> w.cell? ⟨q,j,none⟩=some u) (h1:∀ u ∈ cs,u.oneCell'=true)
    (x:α) (hR:Bx (fun b=>B <= b /\ b < w.heap.size /\ v.ownBlock ≠ some b) w fun w=>R w cs x)
    (h63:xs.length + 1 <= 4611686018427387904) (hbytes:(xs.length + 1) * bytes <= 140737488355328)
    (hk:∀ v' w',OwnG E s R B w' v' (xs ++ [x]) -> (∃ vo vc,v'=.slice vo (xs.length + 1) vc) -> w.grownBy w' v.ownBlock -> K (a.put o.dst v') w'):if Region.wanted o (yielded ops a.tmps)=true then Oper.wp P o a w K Q else X:=by
 obtain ⟨i,hi0,hz,his,hby⟩:=info_parts hi
 obtain ⟨css,hl,hc,hxs⟩:=h.row
 refine step_append_lies _ hgd so xo t ho B E i z s bytes ht hi0 hz his hby hzs hsz v css.length css.flatten hs hc.row ⟨q,0,none⟩ 1 1 cs hx (by rw [hcs,Nat.one_mul]) (fun j u hu=>by rw [Addr.add_lit,Nat.zero_add];exact hnews j u hu) h1 (by decide) (by rw [hl];unfold maxLen;omega) (by rw [hl];exact hbytes) hB w.heap.size rfl ?_
 intro g cap w' o1 o2 o3 _
 exact hk _ _ (OwnG.step hl hc hxs hcs hR (by rw [hl]) o1 o2 o3 rfl) ⟨_,_,by rw [hl]⟩ o2
end
def loM (n k:Nat):MMo:={ mem:=⟨true,16,-1⟩,datas:=List.replicate k ⟨0,List.replicate n 0⟩ }
theorem lo_may (n k:Nat) (hn:n <= 1000) (hk:k <= 9):mayCounts (loM n k)=true /\ mayParts (loM n k)=true:=by
 constructor
 ·simp [loM,mayCounts];omega
 ·have:mayDa ⟨0,List.replicate n 0⟩=true:=by simp [mayDa,mayOff,hn]
  simp [loM,mayParts,mayLi,this]
theorem lo_ok (n k:Nat):MoOk (loM n k):=⟨fun x hx=>(by cases hx),fun x hx=>(by cases hx)⟩
theorem lo_len {M:MMo} (h:mayCounts M=true /\ mayParts M=true):(moE M).length <= 9223372036854775807:=by
 have hc:=mayCn_of h.1
 have hp:=h.2
 have hl:=later_len hc hp
 have h4:=part_len_ta M.table
 have h5:=part_len_me M.mem
 simp only [mayCn,mayParts,Bool.and_eq_true,decide_eq_true_eq] at hc hp
 have h1:=sec_max 1 tyE mayTy M.types hc.1.1.1.1.1.1.1 hp.1.1.1.1.1.1.1.1.1 tyE_max
 have h2:=sec_max 2 imE mayIm M.imports hc.1.1.1.1.1.1.2 hp.1.1.1.1.1.1.1.1.2 imE_max
 have h3:=sec_max 3 numE mayNu M.funcs hc.1.1.1.1.1.2 hp.1.1.1.1.1.1.1.2 numE_max
 have h6:=sec_max 6 glE mayGl M.globals hc.1.1.1.1.2 hp.1.1.1.1.2 glE_max
 have h7:=sec_max 7 exE mayEx M.exports hc.1.1.1.2 hp.1.1.1.2 exE_max
 unfold moE headE
 simp only [List.length_append,List.length_cons,List.length_nil] at hl ⊢
 omega
theorem infoU8n:(Tryz.prog.info? 5).map (fun i=>(i.zero,i.size,i.bytes))=some (some (.int .u8 0),1,1):=by kernel_rfl
theorem make_u8 (n:Nat) (hn:n <= 1000000) (w:World):∃ w',(Instr.makeSlice 37 (.int .i64 (n:Int)) (.int .i64 (n:Int))).run Tryz.prog w=.ok (.slice (some ⟨w.heap.size,0,none⟩) n n) w' /\
    Own 5 .u8 w.heap.size w' (.slice (some ⟨w.heap.size,0,none⟩) n n) (List.replicate n 0) /\ Below w.heap.size w w' /\ w'.heap.size=w.heap.size + 1:=by
 obtain ⟨i,hi0,hz,hsz,hby⟩:=info_parts infoU8n
 have hr:=run_makeSlice (P:=Tryz.prog) w 37 5 i (.int .u8 0) Tryz.underlying37 hi0 hz .i64 .i64 n n (by omega) (Int.le_refl _) (by rw [hsz];simp;omega) (by rw [hby];omega) (by omega)
 obtain ⟨w',hr2,ho,hg⟩:=run_makeSlice_full (P:=Tryz.prog) w w.heap.size 37 5 i (.int .u8 0) 1 Tryz.underlying37 hi0 hz hsz .i64 .i64 n (by omega) (by rw [hby];omega) (by unfold maxLen;omega) (Nat.le_refl _)
 have e:w'=w.alloc (.cells (madeCells (Value.int .u8 0).cells ((n:Int).toNat * i.size)) 5):=by
  rw [hr2] at hr
  exact (Result.ok.inj hr).2
 refine ⟨w',hr2,⟨?_,fun x hx=>?_⟩,by rw [e];exact Bl.alloc (Bl.refl w) _,by rw [e];simp⟩
 ·have e2:(madeCells (Value.int .u8 0).cells (n * 1)).toList=(List.replicate n (0:Int)).map (Value.int .u8):=by
     simp [madeCells,Value.cells,Nat.mod_one,List.map_const']
  rw [e2] at ho
  simpa using ho
 ·rw [List.eq_of_mem_replicate hx];decide
theorem long_mid {w wm w2:World} {p:Nat} {vo:Option Addr} {k vc:Nat} {cs:List Value} {o:Obj} (hc:Cel wm p cs) (hb:Below w.heap.size w wm) (hv2:∀ b,(Value.slice vo k vc).ownBlock=some b -> p + 1 <= b /\ b < wm.heap.size)
    {E s:Nat} {xs:List MDa} {v2:Value} (_:OwnG E s DaR (p + 1) w2 v2 xs) (hg:(wm.alloc o).grownBy w2 (Value.slice vo k vc).ownBlock) (hp:w.heap.size <= p) (h0:0 < cs.length):Cel w2 p cs /\ Below w.heap.size w w2 /\ p < w2.heap.size:=by
 have hg2:wm.grownBy w2 (Value.slice vo k vc).ownBlock:=gr_trans (gr_below (Bl.alloc (Bl.refl wm) o) (Nat.le_refl _) _) hg
 have hlt:=hc.lt h0
 refine ⟨hc.grown h0 hg2 (fun e=>by have:=(hv2 p e).1;omega),⟨hg2.os.trans hb.os,hg2.tape.trans hb.tape,hg2.output.trans hb.output,Nat.le_trans hb.size hg2.size,fun b hbl=>(hg2.block b (Nat.lt_of_lt_of_le hbl hb.size) (fun e=>by have:=(hv2 b e.symm).1;omega)).trans (hb.block b hbl)⟩,Nat.lt_of_lt_of_le hlt hg2.size⟩
end Go.Proofs.YtbkofpljchkkaaaGreat
