/- Words: WaManyM. -/
import Derived.Deep.AppendLies
import Derived.Test.YtbkofpljchkkaaaGreatWF
import Derived.Test.YtbkofpljchkkaaaGreatRefEqM
import Derived.Test.YtbkofpljchkkaaaGreatRefByt
import Derived.Test.YtbkofpljchkkaaaGreatWC
namespace Go.Proofs.YtbkofpljchkkaaaGreat
open Go.RowKit
theorem MoP.ofP {M:MMo} (h:qV M=true) (ok:MoOk M):MoP M:=by
 simp only [qV,qXi] at h;obtain ⟨⟨⟨⟨⟨⟨⟨⟨⟨h0,h1⟩,h2⟩,h3⟩,h4⟩,h5⟩,h6⟩,h7⟩,h8⟩,h9⟩:=h;exact ⟨h0,h1,h2,h3,h4,h5,h6,h7,h8,h9,ok⟩
theorem xT {α:Type} {e:α -> α -> Bool} (h:∀ x,e x x=true):∀ l:List α,eqG e l l=true
 | []=>by simp [eqG]
 | a :: r=>by
   have:=xT h r;simp only [eqG,decide_true,Bool.true_and,List.zip_cons_cons,List.all_cons,h a] at this ⊢;exact this
theorem qOg (M:MMo):qAr M M=true:=by
 unfold qAr;rw [xT (e:=qHx) fun x=>by simp [qHx],xT (e:=qEx) fun x=>by simp [qEx],xT (e:=qEy) fun x=>by simp [qEy],xT (e:=qFw) fun x=>by simp [qFw],xT (e:=qHq) fun x=>by simp [qHq],xT (e:=qGh) fun x=>by unfold qGh;rw [xT (e:=fun I J:Ins=>eqI I.op I.a I.b I.l J.op J.a J.b J.l) fun I=>by simp [eqI]];simp,xT (e:=qHr) fun x=>by simp [qHr]];simp [qL9]
end Go.Proofs.YtbkofpljchkkaaaGreat
