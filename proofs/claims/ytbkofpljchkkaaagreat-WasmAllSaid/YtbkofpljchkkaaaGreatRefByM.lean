/- Words: RefByM. -/
import Derived.Test.YtbkofpljchkkaaaGreatRefBy
namespace Go.Proofs.YtbkofpljchkkaaaGreat
open Go.RowKit
def qF0 (m:MMo):Bool :=
 decide (m.types.length <= 32) && decide (m.imports.length <= 32) && decide (m.funcs.length <= 32) && decide (m.globals.length <= 32) && decide (m.exports.length <= 32) && decide (m.elems.length <= 32) && decide (m.codes.length <= 32) && decide (m.datas.length <= 32)
theorem qO2 {m:MMo} (h:jH m=true):qF0 m=true:=by
 simp only [jH,qF0,qXi,decide_eq_true_eq,beq_iff_eq] at h ⊢;omega
theorem qI6 (l:List Int) (m:Nat) (h:l.length <= m):(qT jG l).length <= 10 + 10 * m:=by
 have h1:=qM jG l 10 (fun x _=>qE 9 x);have h2:=qE 9 (l.length:Int);unfold qT;rw [qW7];have h3:l.length * 10 <= 10 * m:=by omega
 omega
theorem qMh (x:MEl) (h:zT x=true):(elE x).length <= 100010000:=by
 unfold zT at h;simp only [qXi,decide_eq_true_eq] at h;have h1:=yC 1 x.off;have h2:=qI6 x.fs 50 h.1.2;unfold elE;simp only [qXg,qW7];omega
end Go.Proofs.YtbkofpljchkkaaaGreat
