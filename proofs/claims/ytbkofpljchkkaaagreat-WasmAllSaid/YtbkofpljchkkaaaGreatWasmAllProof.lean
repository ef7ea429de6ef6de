/- WasmAll holds: which modules may be; those go to bytes and back; two have one text just if they are the same. No condition on the arguments. -/
import Derived.Test.YtbkofpljchkkaaaGreatRows
import Derived.Test.YtbkofpljchkkaaaGreatWaAllLaw
import Derived.Test.YtbkofpljchkkaaaGreatJoin
import Derived.WalkKit
import Derived.ProofKit
import Derived.OpenShut
import Derived.Lib.SmallJoins
import Derived.ShutString
import Derived.ChangeOld
import Derived.Below
namespace Go.Proofs.YtbkofpljchkkaaaGreat.wasmAll
open Go.ChangeShapes Go.WideShapes Go.ChangeAt Go.RowKit Go.Joins
set_option linter.unusedVariables false
theorem own:ownKnob Tryz.prog.godebug=none:=by kernel_rfl
theorem laidOut:laidOutB Tryz.prog=true:=jn_laid
theorem walk (V0:MoV) (M0:MMo) (V1:MoV) (M1:MMo) (w:World) (w0:Rx w (MoR V0 M0)) (w1:Rx w (MoR V1 M1)) :
  Calls Tryz.prog 3 #[.agg (V0.cells M0).toArray,.agg (V1.cells M1).toArray] w fun e w'=>e=.returned (.bool true) /\ Below w.heap.size w w':=by
 exact wasmAll_walk V0 M0 V1 M1 w w0 w1
set_option maxRecDepth 100000 in
theorem lifted (os:Os) (started:os.Started) (H:Type) (enc:TypeId × Value -> H) :
  ReturnsInHanded {} Tryz.checked os 3 .any (Rows.wasmAllSpec.pre6 enc Tryz.prog Tryz.f3 Rows.wasmAllRow.domain false) (Rows.wasmAllSpec.post enc Tryz.prog Tryz.f3 false true false false):=by
 refine returnsInHanded_of_change (C:=Tryz.checked) own started (by kernel_rfl) Tryz.func3
  (ChangeSpec.witness6 (enc:=enc) (C:=Tryz.checked) false ⟨#[],#[.agg #[.slice none 0 0,.slice none 0 0,.slice none 0 0,.bool false,.int .i64 0,.int .i64 0,.bool false,.int .i64 0,.int .i64 0,.slice none 0 0,.slice none 0 0,.slice none 0 0,.slice none 0 0,.slice none 0 0],.agg #[.slice none 0 0,.slice none 0 0,.slice none 0 0,.bool false,.int .i64 0,.int .i64 0,.bool false,.int .i64 0,.int .i64 0,.slice none 0 0,.slice none 0 0,.slice none 0 0,.slice none 0 0,.slice none 0 0]],[]⟩ 8 (by kernel_rfl) (by kernel_rfl) (by kernel_rfl) (by kernel_rfl)) ?_
 intro W base args ds gs before hval0 hW hcnd _
 have hval:∀ (j:Nat) t v,Tryz.f3.params[j]?=some t -> args[j]?=some v -> Value.okWide Tryz.prog W .any base t v:=hval0
 have hW':=hW
 obtain ⟨p,q,hA0,hV,rfl,hfz,hnd⟩:=hW
 have hA:DataW.TrodAll enc Tryz.prog W 0 (fun _=>true) true Tryz.f3.params.toList args.toList ds p:=hA0
 rw [Tryz.params3] at hA hval
 obtain ⟨v0,vs0,d0,ds0,pl0,qq0,hargs,rfl,rfl,h0,r0⟩:=trodAll_cons hA
 obtain ⟨v1,vs1,d1,ds1,pl1,qq1,rfl,rfl,rfl,h1,r1⟩:=trodAll_cons r0
 obtain ⟨rfl,rfl,rfl⟩:=trodAll_nil r1
 obtain rfl:args=#[v0,v1]:=by cases args;simp_all
 obtain ⟨rfl,rfl⟩:=trodVars_none hV
 obtain ⟨ca0,rfl,_⟩:=okWide_struct Tryz.underlying33 (hval 0 33 v0 rfl rfl)
 have k0:=h0
 have lt0:∀ x ∈ pl0,x.block < W.heap.size:=by obtain ⟨m,hm⟩:=k0;exact DataW.trod_lt m _ _ _ hm
 obtain ⟨V0,M0,e0,w0⟩:∃ V M,ca0=(MoV.cells V M).toArray /\ Rx W (MoR V M):=by
  obtain ⟨fuel,hf⟩:=h0
  obtain ⟨V,M,hcs,hr⟩:=open_mod hf
  exact ⟨V,M,by have:=congrArg List.toArray hcs;simpa [Value.cells] using this,hr⟩
 subst e0
 obtain ⟨ca1,rfl,_⟩:=okWide_struct Tryz.underlying33 (hval 1 33 v1 rfl rfl)
 have k1:=h1
 have lt1:∀ x ∈ pl1,x.block < W.heap.size:=by obtain ⟨m,hm⟩:=k1;exact DataW.trod_lt m _ _ _ hm
 obtain ⟨V1,M1,e1,w1⟩:∃ V M,ca1=(MoV.cells V M).toArray /\ Rx W (MoR V M):=by
  obtain ⟨fuel,hf⟩:=h1
  obtain ⟨V,M,hcs,hr⟩:=open_mod hf
  exact ⟨V,M,by have:=congrArg List.toArray hcs;simpa [Value.cells] using this,hr⟩
 subst e1
 clear hA0 hval0
 refine (walk V0 M0 V1 M1 W w0 w1).mono fun e W' ⟨he,bel⟩=>?_
 subst he
 exact ⟨_,rfl,_,_,_,[],_,[],hW',trodAll_mk1 (shut_bool Tryz.underlying4 _),(trodAll_cons_mk (Below.trod laidOut (by kernel_rfl) (of_decide_eq_true (by kernel_rfl)) k0 bel lt0) (trodAll_cons_mk (Below.trod laidOut (by kernel_rfl) (of_decide_eq_true (by kernel_rfl)) k1 bel lt1) trodAll_mk0)),rfl,bel.frame _,fun h=>by cases h⟩
theorem j1:(Rows.wasmAllRow.inPlace == Tryz.prog.inPlace 3)=true:=by kernel_rfl
theorem j2:(Rows.wasmAllRow.unfollowed == Tryz.prog.unfollowed 3)=true:=by kernel_rfl
theorem j3:(Rows.wasmAllRow.recurses == Tryz.prog.recurses 3)=true:=by kernel_rfl
theorem j4:(Rows.wasmAllRow.named == Tryz.prog.varsNamed 3)=true:=by kernel_rfl
theorem closed:joinedFacts Tryz.prog 3 Tryz.f3 Rows.wasmAllSpec Rows.wasmAllRow=true:=by
 unfold joinedFacts
 rw [jn_laid,jn_maps,jn_heard,jn_enter,jn_lifts,jn_make,jn_plain,j1,j2,j3,j4]
 kernel_rfl
theorem over:Rows.wasmAllRow.holds Tryz.pinned (OpenSpec.ofChange Rows.wasmAllSpec) :=
 OpenClaim.holds_of_wide 3 Tryz.f3 rfl rfl rfl rfl rfl rfl rfl ⟨rfl,rfl,rfl,rfl,rfl⟩ rfl rfl rfl rfl rfl (by as_aux_lemma=>kernel_rfl) Tryz.func3 closed
  (of_decide_eq_true (by kernel_rfl)) (by unfold Func.isWrapper;first | (rw [if_pos (by decide +kernel)];kernel_rfl) | (rw [if_neg (by decide +kernel)];exact ⟨rfl,rfl⟩))
  (fun os started H enc _=>lifted os started H enc)
theorem proved:Rows.WasmAllSaid:=over
#print axioms proved
end Go.Proofs.YtbkofpljchkkaaaGreat.wasmAll
