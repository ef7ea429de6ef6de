/- Words: PartM. -/
import Derived.Test.YtbkofpljchkkaaaGreatCutW
import Derived.Test.YtbkofpljchkkaaaGreatWaManyM
import Derived.Test.YtbkofpljchkkaaaGreatRefMay
namespace Go.Proofs.YtbkofpljchkkaaaGreat
open Go.RowKit
theorem qJy {p q:Nat} {w w':World} {Φ:World -> Prop} (h:Bx (fun b=>p < b /\ b < q) w Φ) (hg:w.grownBy w' (some q)) (hq:q <= w.heap.size):Bx (fun b=>p < b /\ b < q) w' Φ :=
 h.keep fun b hb=>hg.block b (by omega) (fun e=>by
  have h:b=q:=(by simpa using e)
  omega)
theorem qWf (M:MMo):8 <= (moE M).length:=by
 unfold moE;rw [qW7];have:yX.length=8:=rfl;omega
theorem qVk {a b:List Int} (h:a.length ≠ b.length):((strOfNums a).toList == (strOfNums b).toList)=false:=by
 rw [beq_eq_false_iff_ne];intro e;rw [ByteArray.toList_eq,ByteArray.toList_eq,strOfNums_data,strOfNums_data] at e;have:=congrArg List.length e;rw [List.length_map,List.length_map] at this;exact h this
theorem qEe (s:ByteArray):j5 (j5 s)=j5 s:=by
 have h:¬ 20 < (j5 s).size:=by
  unfold j5;split
  ·simp;omega
  ·assumption
 exact if_neg h
theorem j7 {α:Type} {f:α -> α} (h:∀ x,f (f x)=f x) (n:Nat) (l:List α):(((l.take n).map f).take n).map f=(l.take n).map f:=by
 rw [<- List.map_take,List.take_take,Nat.min_self,List.map_map];exact List.map_congr_left fun x _=>h x
theorem yE {α:Type} (n:Nat) (l:List α):(l.take n).take n=l.take n:=by rw [List.take_take,Nat.min_self]
theorem qL0 (M:MMo):qCd (qCd M)=qCd M:=by
 unfold qCd;dsimp only
 rw [j7 (f:=vE) (fun x=>by simp only [vE,yE]),j7 (f:=xX) (fun x=>by simp only [xX,qEe]),j7 (f:=xY) (fun x=>by simp only [xY,qEe]),j7 (f:=xZ) (fun x=>by simp only [xZ,yE]),
  j7 (f:=vF) (fun x=>by simp only [vF,yE,j7 (f:=qOr) (fun I=>by simp only [qOr,yE])]),j7 (f:=yA) (fun x=>by simp only [yA,yE]),yE,yE]
theorem qL1 (M:MMo):Tame (qCd M):=by
 refine ⟨fun c hc=>?_,fun i hi=>?_,fun e he=>?_⟩
 ·obtain ⟨d,_,rfl⟩:=List.mem_map.1 hc
  have:((d.body.take 120).map qOr).length <= 120:=by simp;omega
  exact qXk this (by decide)
 ·obtain ⟨d,_,rfl⟩:=List.mem_map.1 hi
  exact ⟨qXk (qE0 _) (by decide),qXk (qE0 _) (by decide)⟩
 ·obtain ⟨d,_,rfl⟩:=List.mem_map.1 he
  exact qXk (qE0 _) (by decide)
theorem qRd (M:MMo):(qCd M).imports.length <= 1000000:=by simp [qCd];omega
theorem qRe (M:MMo):(qCd M).funcs.length <= 1000000:=by simp [qCd];omega
def zJ (j:Nat) (M:MMo):MMo:=match j with
 | 0=>{ M with types:=[] }
 | 1=>{ M with imports:=[] }
 | 2=>{ M with globals:=[] }
 | 3=>{ M with exports:=[] }
 | 4=>{ M with elems:=[] }
 | 5=>{ M with datas:=[] }
 | _=>{ M with mem:=⟨false,0,0⟩ }
def qBh (j:Nat) (M:MMo):Bool:=match j with
 | 0=>decide (0 < M.types.length)
 | 1=>decide (0 < M.imports.length)
 | 2=>decide (0 < M.globals.length)
 | 3=>decide (0 < M.exports.length)
 | 4=>decide (0 < M.elems.length)
 | 5=>decide (0 < M.datas.length)
 | _=>M.mem.has
theorem qJz {α:Type} (k:Int) (f:α -> List Int):qL k f []=[]:=rfl
theorem vN {α:Type} (k:Int) (f:α -> List Int) {l:List α} (h:0 < l.length):0 < (qL k f l).length:=by
 cases l with
 | nil=>simp at h
 | cons a r=>simp [qL]
theorem qEf {α:Type} {l:List α} (h:decide (0 < l.length)=false):l=[]:=by
 have:=of_decide_eq_false h;exact List.eq_nil_of_length_eq_zero (by omega)
theorem qDm (j:Nat) (M:MMo) (hM:jT M=true) (h:qBh j M=false):zJ j M=M:=by
 obtain ⟨t,i,f,ta,me,g,e,l,c,d⟩:=M;unfold qBh at h;unfold zJ;split at h <;> dsimp only at h ⊢
 ·rw [qEf h]
 ·rw [qEf h]
 ·rw [qEf h]
 ·rw [qEf h]
 ·rw [qEf h]
 ·rw [qEf h]
 ·obtain ⟨x,y,z⟩:=me
  dsimp only at h;subst h;simp only [jT,qV,zS,qXi] at hM;obtain ⟨⟨_,hM⟩,_⟩:=hM;obtain ⟨⟨⟨⟨⟨⟨⟨⟨⟨_,_⟩,_⟩,_⟩,h1⟩,_⟩,_⟩,_⟩,_⟩,_⟩:=hM;simp at h1;obtain ⟨rfl,rfl⟩:=h1;rfl
theorem qJ0 (j:Nat) (M:MMo):(moE (zJ j M)).length <= (moE M).length /\ (qBh j M=true -> (moE (zJ j M)).length < (moE M).length):=by
 obtain ⟨t,i,f,ta,me,g,e,l,c,d⟩:=M;unfold qBh zJ moE;split <;> dsimp only <;> simp only [qW7,qJz,qXq]
 ·exact ⟨by omega,fun h=>by have:=vN 1 tyE (of_decide_eq_true h);omega⟩
 ·exact ⟨by omega,fun h=>by have:=vN 2 imE (of_decide_eq_true h);omega⟩
 ·exact ⟨by omega,fun h=>by have:=vN 6 glE (of_decide_eq_true h);omega⟩
 ·exact ⟨by omega,fun h=>by have:=vN 7 exE (of_decide_eq_true h);omega⟩
 ·exact ⟨by omega,fun h=>by have:=vN 9 elE (of_decide_eq_true h);omega⟩
 ·exact ⟨by omega,fun h=>by have:=vN 11 daE (of_decide_eq_true h);omega⟩
 ·have e0:jB (⟨false,0,0⟩:MLi)=[]:=rfl
  rw [e0];simp only [qJz,qXq];exact ⟨by omega,fun h=>by have:=vN 5 liE (l:=jB me) (by simp [jB,h]);omega⟩
theorem qRf (j:Nat) (M:MMo) (hM:jT M=true):jT (zJ j M)=true:=by
 have hl:=(qJ0 j M).1;have h8:=qAw hM;have h3:decide ((moE (zJ j M)).length <= 8000)=true:=decide_eq_true (by omega);unfold jT at hM ⊢;rw [h3];clear hl h8 h3;obtain ⟨t,i,f,ta,me,g,e,l,c,d⟩:=M;simp only [qXi,jH,qV,decide_eq_true_eq,beq_iff_eq] at hM;obtain ⟨⟨⟨⟨⟨⟨⟨⟨c1,c2⟩,c3⟩,c4⟩,c5⟩,c6⟩,c7⟩,⟨⟨⟨⟨⟨⟨⟨⟨p0,p1⟩,p2⟩,p3⟩,p4⟩,p5⟩,p6⟩,p7⟩,p8⟩,p9⟩,_⟩:=hM;unfold zJ;have p10:zS ⟨false,0,0⟩ 16 65536=true:=by decide
 have c8:f.length <= 16:=by omega
 split <;> dsimp only <;> simp [*,jH,qV]
theorem qTy (j:Nat) (M:MMo) (hM:jT M=true):qAr M (zJ j M)=!qBh j M:=by
 cases h:qBh j M with
 | false=>rw [qDm j M hM h,qOg];rfl
 | true =>
   obtain ⟨t,i,f,ta,me,g,e,l,c,d⟩:=M;unfold qBh at h;unfold zJ;split at h <;> dsimp only at h ⊢ <;> unfold qAr <;> dsimp only
   ·rw [zH (e:=qHx) (by have:=of_decide_eq_true h;simp only [qXq];omega)];rfl
   ·rw [zH (e:=qEx) (by have:=of_decide_eq_true h;simp only [qXq];omega)];simp
   ·rw [zH (e:=qEy) (by have:=of_decide_eq_true h;simp only [qXq];omega)];simp
   ·rw [zH (e:=qFw) (by have:=of_decide_eq_true h;simp only [qXq];omega)];simp
   ·rw [zH (e:=qHq) (by have:=of_decide_eq_true h;simp only [qXq];omega)];simp
   ·rw [zH (e:=qHr) (by have:=of_decide_eq_true h;simp only [qXq];omega)];simp
   ·obtain ⟨x,y,z⟩:=me
    dsimp only at h;subst h;simp [qL9]
theorem load14 {w:World} {p:Nat} {v0 v1 v2 v3 v4 v5 v6 v7 v8 v9 v10 v11 v12 v13:Value} {o:Oper} {a:Act} {s:Tmp} (ho:o.op=.load 33 (.tmp s)) (hs:a.tmps.getD s undef=.pointer (some ⟨p,0,none⟩)) (c0:w.cell? ⟨p,0,none⟩=some v0) (c1:w.cell? ⟨p,1,none⟩=some v1) (c2:w.cell? ⟨p,2,none⟩=some v2) (c3:w.cell? ⟨p,3,none⟩=some v3) (c4:w.cell? ⟨p,4,none⟩=some v4) (c5:w.cell? ⟨p,5,none⟩=some v5) (c6:w.cell? ⟨p,6,none⟩=some v6) (c7:w.cell? ⟨p,7,none⟩=some v7) (c8:w.cell? ⟨p,8,none⟩=some v8) (c9:w.cell? ⟨p,9,none⟩=some v9) (c10:w.cell? ⟨p,10,none⟩=some v10) (c11:w.cell? ⟨p,11,none⟩=some v11) (c12:w.cell? ⟨p,12,none⟩=some v12) (c13:w.cell? ⟨p,13,none⟩=some v13):(execOp a.eval o).run Tryz.prog w=.ok (.value (.agg #[v0,v1,v2,v3,v4,v5,v6,v7,v8,v9,v10,v11,v12,v13])) w:=by
 unfold execOp;simp only [ho];rw [qXn] at hs;go_simp
abbrev mv (V:MoV) (N:MMo):Value:=.agg (V.cells N).toArray
theorem load_mod {w:World} {p:Nat} {V:MoV} {N:MMo} {o:Oper} {a:Act} {s:Tmp} (ho:o.op=.load 33 (.tmp s)) (hs:a.tmps.getD s undef=.pointer (some ⟨p,0,none⟩)) (h:Cel w p (V.cells N)):(execOp a.eval o).run Tryz.prog w=.ok (.value (mv V N)) w :=
 load14 ho hs (h.cell 0 _ rfl) (h.cell 1 _ rfl) (h.cell 2 _ rfl) (h.cell 3 _ rfl) (h.cell 4 _ rfl) (h.cell 5 _ rfl) (h.cell 6 _ rfl) (h.cell 7 _ rfl) (h.cell 8 _ rfl) (h.cell 9 _ rfl) (h.cell 10 _ rfl) (h.cell 11 _ rfl) (h.cell 12 _ rfl) (h.cell 13 _ rfl)
def IsMd (B:Nat) (N:MMo):Value -> World -> Prop:=fun v w=>∃ V:MoV,v=.agg (V.cells N).toArray /\ Bx (fun b=>B <= b /\ b < w.heap.size) w (MoR V N)
theorem qB.md (B:Nat) (N:MMo):qB (IsMd B N):=fun _ _ _ ⟨V,e,h⟩ hb=>⟨V,e,h.bel hb⟩
end Go.Proofs.YtbkofpljchkkaaaGreat
