/- Words: WaManyM. -/
import Derived.Deep.AppendLies
import Derived.Test.YtbkofpljchkkaaaGreatWF
import Derived.Test.YtbkofpljchkkaaaGreatRefEqM
import Derived.Test.YtbkofpljchkkaaaGreatRefByt
import Derived.Test.YtbkofpljchkkaaaGreatWC
namespace Go.Proofs.YtbkofpljchkkaaaGreat
open Go.RowKit
abbrev nS:ByteArray:=⟨#[110]⟩
abbrev mS:ByteArray:=⟨#[109]⟩
def mnM (j n:Nat):MMo :=
 match j with
 | 0=>{ types:=(List.range n).map fun _:Nat=>(⟨[],[]⟩:MTy) }
 | 1=>{ globals:=(List.range n).map fun i:Nat=>(⟨false,1,i⟩:MGl) }
 | 2=>{ exports:=(List.range n).map fun i:Nat=>(⟨strOfNums [97 + i],0⟩:MEx) }
 | _=>{ imports:=(List.range n).map fun i:Nat=>(⟨mS,nS,i⟩:MIm) }
theorem mn_im (j n:Nat) (h:n <= 20):(mnM j n).imports.length <= 1000000:=by
 unfold mnM
 split <;> simp
 omega
theorem mn_fu (j n:Nat):(mnM j n).funcs.length <= 1000000:=by
 unfold mnM
 split <;> simp
theorem mn_may_all:((List.range 4).all fun j=>(List.range 17).all fun n=>mayMo (mnM j n))=true:=by kernel_rfl
theorem mn_bad_all:((List.range 4).all fun j=>(List.range 21).all fun n=>decide (n <= 16) || (!mayMo (mnM j n) && (mayCn (mnM j n) && (mayParts (mnM j n) && decide ((moE (mnM j n)).length <= 8000)))))=true:=by kernel_rfl
theorem mn_may (j n:Nat) (hj:j < 4) (hn:n <= 16):mayMo (mnM j n)=true :=
 List.all_eq_true.1 (List.all_eq_true.1 mn_may_all j (List.mem_range.2 hj)) n (List.mem_range.2 (by omega))
theorem mn_bad (j n:Nat) (hj:j < 4) (hn:16 < n) (h:n <= 20):mayMo (mnM j n)=false /\ mayCn (mnM j n)=true /\ mayParts (mnM j n)=true /\ (moE (mnM j n)).length <= 8000:=by
 have h1:=List.all_eq_true.1 (List.all_eq_true.1 mn_bad_all j (List.mem_range.2 hj)) n (List.mem_range.2 (by omega))
 rw [decide_eq_false (by omega),Bool.false_or] at h1
 simp only [Bool.and_eq_true,decide_eq_true_eq,Bool.not_eq_true'] at h1
 exact h1
theorem mn_ok (j n:Nat) (h:n <= 20):MoOk (mnM j n):=by
 unfold mnM
 split
 ·exact ⟨fun x hx=>(by cases hx),fun x hx=>(by cases hx)⟩
 ·refine ⟨fun x hx=>?_,fun x hx=>(by cases hx)⟩
  obtain ⟨i,hi,rfl⟩:=List.mem_map.1 hx
  have:=List.mem_range.1 hi
  dsimp only
  omega
 ·exact ⟨fun x hx=>(by cases hx),fun x hx=>(by cases hx)⟩
 ·exact ⟨fun x hx=>(by cases hx),fun x hx=>(by cases hx)⟩
theorem MoP.ofP {M:MMo} (h:mayParts M=true) (ok:MoOk M):MoP M:=by
 simp only [mayParts,Bool.and_eq_true] at h
 obtain ⟨⟨⟨⟨⟨⟨⟨⟨⟨h0,h1⟩,h2⟩,h3⟩,h4⟩,h5⟩,h6⟩,h7⟩,h8⟩,h9⟩:=h
 exact ⟨h0,h1,h2,h3,h4,h5,h6,h7,h8,h9,ok⟩
theorem eqG_refl {α:Type} {e:α -> α -> Bool} (h:∀ x,e x x=true):∀ l:List α,eqG e l l=true
 | []=>by simp [eqG]
 | a :: r=>by
   have:=eqG_refl h r
   simp only [eqG,decide_true,Bool.true_and,List.zip_cons_cons,List.all_cons,h a] at this ⊢
   exact this
theorem eqMo_refl (M:MMo):eqMo M M=true:=by
 unfold eqMo
 rw [eqG_refl (e:=eqTy) fun x=>by simp [eqTy],eqG_refl (e:=eqIm) fun x=>by simp [eqIm],eqG_refl (e:=eqGl) fun x=>by simp [eqGl],eqG_refl (e:=eqEx) fun x=>by simp [eqEx],eqG_refl (e:=eqEl) fun x=>by simp [eqEl],eqG_refl (e:=eqCo) fun x=>by unfold eqCo;rw [eqG_refl (e:=fun I J:Ins=>eqI I.op I.a I.b I.l J.op J.a J.b J.l) fun I=>by simp [eqI]];simp,eqG_refl (e:=eqDa) fun x=>by simp [eqDa]]
 simp [eqLi]
end Go.Proofs.YtbkofpljchkkaaaGreat
