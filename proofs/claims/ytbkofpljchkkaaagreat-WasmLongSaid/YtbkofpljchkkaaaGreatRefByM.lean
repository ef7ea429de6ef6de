/- Words: RefByM. -/
import Derived.Test.YtbkofpljchkkaaaGreatRefBy
namespace Go.Proofs.YtbkofpljchkkaaaGreat
open Go.RowKit
def mayCn (m:MMo):Bool :=
 decide (m.types.length <= 32) && decide (m.imports.length <= 32) && decide (m.funcs.length <= 32) && decide (m.globals.length <= 32) && decide (m.exports.length <= 32) && decide (m.elems.length <= 32) && decide (m.codes.length <= 32) && decide (m.datas.length <= 32)
theorem mayCn_of {m:MMo} (h:mayCounts m=true):mayCn m=true:=by
 simp only [mayCounts,mayCn,Bool.and_eq_true,decide_eq_true_eq,beq_iff_eq] at h ⊢
 omega
theorem vecN_max (l:List Int) (m:Nat) (h:l.length <= m):(vecE numE l).length <= 10 + 10 * m:=by
 have h1:=flatMap_le numE l 10 (fun x _=>encU_len 9 x)
 have h2:=encU_len 9 (l.length:Int)
 unfold vecE
 rw [List.length_append]
 have h3:l.length * 10 <= 10 * m:=by omega
 omega
theorem elE_max (x:MEl) (h:mayEl x=true):(elE x).length <= 100010000:=by
 unfold mayEl at h
 simp only [Bool.and_eq_true,decide_eq_true_eq] at h
 have h1:=cst_len 1 x.off
 have h2:=vecN_max x.fs 50 h.1.2
 unfold elE
 simp only [List.length_cons,List.length_append]
 omega
end Go.Proofs.YtbkofpljchkkaaaGreat
