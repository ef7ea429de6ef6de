/- Words: PartM. -/
import Derived.Test.YtbkofpljchkkaaaGreatCutW
import Derived.Test.YtbkofpljchkkaaaGreatWaManyM
import Derived.Test.YtbkofpljchkkaaaGreatRefMay
namespace Go.Proofs.YtbkofpljchkkaaaGreat
open Go.RowKit
theorem qL1 (M:MMo):Tame (qCd M):=by
 refine ⟨fun c hc=>?_,fun i hi=>?_,fun e he=>?_⟩
 ·obtain ⟨d,_,rfl⟩:=List.mem_map.1 hc;have:((d.body.take 120).map qOr).length <= 120:=by simp;omega
  exact qXk this (by decide)
 ·obtain ⟨d,_,rfl⟩:=List.mem_map.1 hi;exact ⟨qXk (qE0 _) (by decide),qXk (qE0 _) (by decide)⟩
 ·obtain ⟨d,_,rfl⟩:=List.mem_map.1 he;exact qXk (qE0 _) (by decide)
theorem qRd (M:MMo):(qCd M).imports.length <= 1000000:=by simp [qCd];omega
theorem qRe (M:MMo):(qCd M).funcs.length <= 1000000:=by simp [qCd];omega
theorem load14 {w:World} {p:Nat} {v0 v1 v2 v3 v4 v5 v6 v7 v8 v9 v10 v11 v12 v13:Value} {o:Oper} {a:Act} {s:Tmp} (ho:o.op=.load 33 (.tmp s)) (hs:a.tmps.getD s undef=.pointer (some ⟨p,0,none⟩)) (c0:w.cell? ⟨p,0,none⟩=some v0) (c1:w.cell? ⟨p,1,none⟩=some v1) (c2:w.cell? ⟨p,2,none⟩=some v2) (c3:w.cell? ⟨p,3,none⟩=some v3) (c4:w.cell? ⟨p,4,none⟩=some v4) (c5:w.cell? ⟨p,5,none⟩=some v5) (c6:w.cell? ⟨p,6,none⟩=some v6) (c7:w.cell? ⟨p,7,none⟩=some v7) (c8:w.cell? ⟨p,8,none⟩=some v8) (c9:w.cell? ⟨p,9,none⟩=some v9) (c10:w.cell? ⟨p,10,none⟩=some v10) (c11:w.cell? ⟨p,11,none⟩=some v11) (c12:w.cell? ⟨p,12,none⟩=some v12) (c13:w.cell? ⟨p,13,none⟩=some v13):(execOp a.eval o).run Tryz.prog w=.ok (.value (.agg #[v0,v1,v2,v3,v4,v5,v6,v7,v8,v9,v10,v11,v12,v13])) w:=by
 unfold execOp;simp only [ho];rw [qXn] at hs;go_simp
theorem cells14 (V:MoV) (N:MMo):∃ v0 v1 v2 v3 v4 v5 v6 v7 v8 v9 v10 v11 v12 v13:Value,V.cells N=[v0,v1,v2,v3,v4,v5,v6,v7,v8,v9,v10,v11,v12,v13]:=⟨_,_,_,_,_,_,_,_,_,_,_,_,_,_,rfl⟩
theorem cellsX (V:MoV) (N:MMo):∃ (a0:Option Addr) (a1 a2:Nat) (a3:Option Addr) (a4 a5:Nat) (a6:Option Addr) (a7 a8:Nat) (a9:Bool) (a10 a11:Int) (a12:Bool) (a13 a14:Int) (a15:Option Addr) (a16 a17:Nat) (a18:Option Addr) (a19 a20:Nat) (a21:Option Addr) (a22 a23:Nat) (a24:Option Addr) (a25 a26:Nat) (a27:Option Addr) (a28 a29:Nat),V.cells N=[.slice a0 a1 a2,.slice a3 a4 a5,.slice a6 a7 a8,.bool a9,.int .i64 a10,.int .i64 a11,.bool a12,.int .i64 a13,.int .i64 a14,.slice a15 a16 a17,.slice a18 a19 a20,.slice a21 a22 a23,.slice a24 a25 a26,.slice a27 a28 a29]:=⟨_,_,_,_,_,_,_,_,_,_,_,_,_,_,_,_,_,_,_,_,_,_,_,_,_,_,_,_,_,_,rfl⟩
abbrev mv (V:MoV) (N:MMo):Value:=.agg (V.cells N).toArray
theorem load_mod {w:World} {p:Nat} {V:MoV} {N:MMo} {o:Oper} {a:Act} {s:Tmp} (ho:o.op=.load 33 (.tmp s)) (hs:a.tmps.getD s undef=.pointer (some ⟨p,0,none⟩)) (h:Cel w p (V.cells N)):(execOp a.eval o).run Tryz.prog w=.ok (.value (mv V N)) w :=
 load14 ho hs (h.cell 0 _ rfl) (h.cell 1 _ rfl) (h.cell 2 _ rfl) (h.cell 3 _ rfl) (h.cell 4 _ rfl) (h.cell 5 _ rfl) (h.cell 6 _ rfl) (h.cell 7 _ rfl) (h.cell 8 _ rfl) (h.cell 9 _ rfl) (h.cell 10 _ rfl) (h.cell 11 _ rfl) (h.cell 12 _ rfl) (h.cell 13 _ rfl)
def IsMd (B:Nat) (N:MMo):Value -> World -> Prop:=fun v w=>∃ V:MoV,v=.agg (V.cells N).toArray /\ Bx (fun b=>B <= b /\ b < w.heap.size) w (MoR V N)
theorem qB.md (B:Nat) (N:MMo):qB (IsMd B N):=fun _ _ _ ⟨V,e,h⟩ hb=>⟨V,e,h.bel hb⟩
end Go.Proofs.YtbkofpljchkkaaaGreat
