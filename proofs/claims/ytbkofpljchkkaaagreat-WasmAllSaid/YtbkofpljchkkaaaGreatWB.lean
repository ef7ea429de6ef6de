/- Words: WB. -/
import Derived.Test.YtbkofpljchkkaaaGreatWA
import Derived.Test.YtbkofpljchkkaaaGreatKE
import Derived.Test.YtbkofpljchkkaaaGreatKA
set_option maxRecDepth 100000
set_option maxHeartbeats 1000000
namespace Go.Proofs.YtbkofpljchkkaaaGreat
open Go.RowKit
theorem qLn:∀ args w,(callFunc 134 args).run Tryz.prog w=.ok (.enter 134 args) w:=enters_of Tryz.func134 (by kernel_rfl) rfl
theorem qB9:∀ args w,(callFunc 67 args).run Tryz.prog w=.ok (.enter 67 args) w:=enters_of Tryz.func67 (by kernel_rfl) rfl
theorem qN1 {α:Type} (f:α -> List Int) (l:List α) (m:Nat) (hl:l.length <= 1000) (hm:m <= 90000) (hf:∀ x ∈ l,(f x).length <= m):(qT f l).length <= 100000000:=by
 have h1:=qE 9 (l.length:Int);have h2:=qM f l m hf;have h3:l.length * m <= 1000 * 90000:=Nat.mul_le_mul hl hm;unfold qT;simp only [qW7];omega
theorem qJm (l:List Int) (hl:l.length <= 1000):(qT kE l).length <= 100000000:=qN1 kE l 1 hl (by decide) fun _ _=>by simp [kE]
theorem qQ5 (l:List Int) (hl:l.length <= 1000):(qT jG l).length <= 100000000:=qN1 jG l 10 hl (by decide) fun x _=>qE 9 x
theorem qRt (l:List Int) (hl:l.length <= 10000000):(szE l).length <= 100000000:=by
 have h1:=qE 9 (l.length:Int);unfold szE;simp only [qW7];omega
theorem qN2 (s:ByteArray) (h:s.size <= 16):(nmE s).length <= 100000000:=qRt _ (by rw [qA9];omega)
theorem qDh (ao:Option Addr) (n cap:Nat) (xs:List Int) (w:World) (h:Rd .i64 w ao n cap xs) (hn:n <= 1000) :
    Calls Tryz.prog 133 #[.slice ao n cap,.func (.func 134) #[] #[]] w fun e w'=>∃ v,e=.returned v /\ Own 5 .u8 w.heap.size w' v (qT kE xs) /\ Below w.heap.size w w' :=
 qH6 _ kE ao n cap xs w (h.rx.imp fun _ h=>h.ints) qLn hn (fun _ _=>by simp [kE]) fun w cs x _ hR=>by
  obtain ⟨rfl,_⟩:=hR.now;exact qBv x w
theorem qLo (ao:Option Addr) (n cap:Nat) (xs:List Int) (w:World) (h:Rd .i64 w ao n cap xs) (hn:n <= 1000) (hm:xs.all jQ=true) :
    Calls Tryz.prog 133 #[.slice ao n cap,.func (.func 67) #[] #[]] w fun e w'=>∃ v,e=.returned v /\ Own 5 .u8 w.heap.size w' v (qT jG xs) /\ Below w.heap.size w w' :=
 qH6 _ jG ao n cap xs w (h.rx.imp fun _ h=>h.ints) qB9 hn (fun x _=>j9 x) fun w cs x hx hR=>by
  obtain ⟨rfl,_⟩:=hR.now;have:=qXb.1 hm x hx;simp [jQ] at this;exact qS x w this.1 (by omega)
theorem qN3 (n k:Int) (w:World) (h0:0 <= n) (h1:n <= 1000):Calls Tryz.prog 148 #[.agg #[.int .i64 n,.int .i64 k]] w fun e w'=>∃ v,e=.returned v /\ Own 5 .u8 w.heap.size w' v (ruE (n,k)) /\ Below w.heap.size w w':=by
 obtain ⟨b1,hb1⟩:∃ b1,jG n=b1:=⟨_,rfl⟩
 have lb1:b1.length <= 100000000:=by rw [<- hb1];exact j9 n
 have EB1:=hid hb1
 obtain ⟨b2,hb2⟩:∃ b2,kE k=b2:=⟨_,rfl⟩
 have lb2:b2.length <= 100000000:=by rw [<- hb2];exact by simp [kE]
 have EB2:=hid hb2;have HC0:=hid (Cel.new w [.int .i64 n,.int .i64 k] 184);have HB0:Hid (Below w.heap.size w (w.alloc (.cells #[.int .i64 n,.int .i64 k] 184))):=hid (Bl.alloc (Bl.refl w) _);clear hb1 hb2;go_enter Tryz.func148,Tryz.ntmps148;go_wp2_with fail;refine qD 6 (by kernel_rfl) [Is ?vA0,Is (.int .i64 n),jM .u8 b1,Is ?vA3,Is (.int .i64 k),jM .u8 b2] [0,1,2,3,4,5] rfl (by kernel_rfl) rfl (by kernel_rfl) ?hopA ?hstA ?hendA
 case hopA =>
  refine ⟨rq (Is ?vA0) none [] [(1,.pointer (some ⟨w.heap.size,0,none⟩))] ⟨⟨by kernel_rfl,rfl⟩,trivial⟩ ?_,?_⟩
  ·intro a w1 hC e1
   refine Or.inl ⟨_,?_,rfl⟩;go_simp
   first | (go_bits;rfl) | rfl | (rw [if_pos (by omega)])
  refine ⟨rq (Is (.int .i64 n)) none [(some 3,Is ?vA0)] [] trivial ?_,?_⟩
  ·intro a w1 hC (h0:a.tmps.getD 3 undef=_)
   refine Or.inl ⟨.int .i64 n,?_,rfl⟩;have bc:=HC0.out.below (qW5 _) hC;have hcw0:=bc.cell 0 _ rfl;clear bc;go_simp
  refine ⟨rq (jM .u8 b1) none [(some 4,Is (.int .i64 n))] [] trivial ?_,?_⟩
  ·intro a w1 hC (h1:a.tmps.getD 4 undef=_)
   refine Or.inr (Or.inl ⟨67,#[.int .i64 n],?_,?_⟩)
   ·go_simp
   ·refine (qS n w1 (by omega) (by omega)).mono ?_
    rintro e w2 ⟨vv,rfl,hown,hbel⟩;rw [EB1.out] at hown;obtain ⟨ao1,cap1,rfl,hrd⟩:=hown.rd;exact ⟨_,rfl,⟨ao1,cap1,rfl,hrd⟩,hbel⟩
  refine ⟨rq (Is ?vA3) none [] [(1,.pointer (some ⟨w.heap.size,0,none⟩))] ⟨⟨by kernel_rfl,rfl⟩,trivial⟩ ?_,?_⟩
  ·intro a w1 hC e1
   refine Or.inl ⟨_,?_,rfl⟩;go_simp
   first | (go_bits;rfl) | rfl | (rw [if_pos (by omega)])
  refine ⟨rq (Is (.int .i64 k)) none [(some 6,Is ?vA3)] [] trivial ?_,?_⟩
  ·intro a w1 hC (h3:a.tmps.getD 6 undef=_)
   refine Or.inl ⟨.int .i64 k,?_,rfl⟩;have bc:=HC0.out.below (qW5 _) hC;have hcw0:=bc.cell 1 _ rfl;clear bc;go_simp
  refine ⟨rq (jM .u8 b2) none [(some 7,Is (.int .i64 k)),(some 5,jM .u8 b1)] [] trivial ?_,?_⟩
  ·intro a w1 hC (h4:a.tmps.getD 7 undef=_) h2
   refine Or.inr (Or.inl ⟨134,#[.int .i64 k],?_,?_⟩)
   ·go_simp
   ·refine (qBv k w1).mono ?_
    rintro e w2 ⟨vv,rfl,hown,hbel⟩;rw [EB2.out] at hown;obtain ⟨ao1,cap1,rfl,hrd⟩:=hown.rd;exact ⟨_,rfl,⟨ao1,cap1,rfl,hrd⟩,hbel⟩
  exact trivial
 case hstA=>exact ⟨qB.is _,qB.is _,qB.rd _ _,qB.is _,qB.is _,qB.rd _ _,trivial⟩
 case hendA =>
  intro w1 hC;rintro _ rfl;rintro _ rfl;intro x2 h2;rintro _ rfl;rintro _ rfl;intro x5 h5;obtain ⟨ao0,cap0,rfl,hr0⟩:=h2;obtain ⟨ao1,cap1,rfl,hr1⟩:=h5;simp only [xV,Act.put,qXj,qXp,qXo,qXm,qXv]
  have hp:=jE (w:=w1) [⟨ao0,b1.length,cap0,b1⟩,⟨ao1,b2.length,cap1,b2⟩] (by
   intro p hp;simp at hp;rcases hp with rfl | rfl
   ·exact hr0
   ·exact hr1
   ) 37
  have hcc:=jA _ 0 _ 2 _ rfl (by decide) hp (by simp [vC];omega);have HCC:=hid hcc;have HB1:=hid (Bl.step HB0.out hC);clear hp hcc hC hr0 hr1;go_wp2_with fail;refine HCC.out.mono ?_;rintro e w3 ⟨v3,rfl,hv3,hb3⟩;have HB3:=hid (Bl.step (Bl.alloc HB1.out _) hb3);have HV3:=hid (hv3.lift (Bl.alloc HB1.out _).size);simp only [vY,List.append_nil] at HV3;clear hv3 hb3 HCC;go_wp2_with fail;go_ret;refine ⟨_,rfl,?_,HB3.out⟩;unfold ruE;rw [EB1.out,EB2.out];exact HV3.out
theorem qLp (a1:Option Addr) (n1 k1:Nat) (a2:Option Addr) (n2 k2:Nat) (ps rs:List Int) (w:World) (hr1:Rd .i64 w a1 n1 k1 ps) (hr2:Rd .i64 w a2 n2 k2 rs) (h1:n1 <= 32) (h2:n2 <= 1):Calls Tryz.prog 63 #[.agg #[.slice a1 n1 k1,.slice a2 n2 k2]] w fun e w'=>∃ v,e=.returned v /\ Own 5 .u8 w.heap.size w' v (tyE ⟨ps,rs⟩) /\ Below w.heap.size w w':=by
 obtain ⟨b1,hb1⟩:∃ b1,qT kE ps=b1:=⟨_,rfl⟩
 have lb1:b1.length <= 100000000:=by rw [<- hb1];exact qJm ps (by rw [hr1.len];omega)
 have EB1:=hid hb1
 obtain ⟨b2,hb2⟩:∃ b2,qT kE rs=b2:=⟨_,rfl⟩
 have lb2:b2.length <= 100000000:=by rw [<- hb2];exact qJm rs (by rw [hr2.len];omega)
 have EB2:=hid hb2;have HR1:=hid hr1;have HR2:=hid hr2;have HC0:=hid (Cel.new w [.slice a1 n1 k1,.slice a2 n2 k2] 53);have HB0:Hid (Below w.heap.size w (w.alloc (.cells #[.slice a1 n1 k1,.slice a2 n2 k2] 53))):=hid (Bl.alloc (Bl.refl w) _);clear hb1 hb2 hr1 hr2;go_enter Tryz.func63,Tryz.ntmps63;go_wp2_with fail;refine qD 7 (by kernel_rfl) [jM .u8 [96],Is ?vA1,Is (.slice a1 n1 k1),jM .u8 b1,Is ?vA4,Is (.slice a2 n2 k2),jM .u8 b2] [0,1,2,3,4,5,6] rfl (by kernel_rfl) rfl (by kernel_rfl) ?hopA ?hstA ?hendA
 case hopA =>
  refine ⟨rq (jM .u8 [96]) none [] [] trivial ?_,?_⟩
  ·intro a w1 hC
   refine Or.inr (Or.inr ⟨.slice (some ⟨w1.heap.size,0,none⟩) 1 1,w1.alloc (.cells #[.int .u8 96] 5),?_,⟨_,_,rfl,Rd.built _ _ _ _ (by decide)⟩,Bl.alloc (Bl.refl _) _⟩);go_simp
  refine ⟨rq (Is ?vA1) none [] [(1,.pointer (some ⟨w.heap.size,0,none⟩))] ⟨⟨by kernel_rfl,rfl⟩,trivial⟩ ?_,?_⟩
  ·intro a w1 hC e1
   refine Or.inl ⟨_,?_,rfl⟩;go_simp
   first | (go_bits;rfl) | rfl | (rw [if_pos (by omega)])
  refine ⟨rq (Is (.slice a1 n1 k1)) none [(some 4,Is ?vA1)] [] trivial ?_,?_⟩
  ·intro a w1 hC (h1:a.tmps.getD 4 undef=_)
   refine Or.inl ⟨.slice a1 n1 k1,?_,rfl⟩;have bc:=HC0.out.below (qW5 _) hC;have hcw0:=bc.cell 0 _ rfl;clear bc;go_simp
  refine ⟨rq (jM .u8 b1) none [(some 5,Is (.slice a1 n1 k1))] [] trivial ?_,?_⟩
  ·intro a w1 hC (h2:a.tmps.getD 5 undef=_)
   refine Or.inr (Or.inl ⟨133,#[.slice a1 n1 k1,.func (.func 134) #[] #[]],?_,?_⟩)
   ·go_simp
   ·refine (qDh a1 n1 k1 ps w1 (HR1.out.below (Bl.step HB0.out hC)) (by omega)).mono ?_
    rintro e w2 ⟨vv,rfl,hown,hbel⟩;rw [EB1.out] at hown;obtain ⟨ao1,cap1,rfl,hrd⟩:=hown.rd;exact ⟨_,rfl,⟨ao1,cap1,rfl,hrd⟩,hbel⟩
  refine ⟨rq (Is ?vA4) none [] [(1,.pointer (some ⟨w.heap.size,0,none⟩))] ⟨⟨by kernel_rfl,rfl⟩,trivial⟩ ?_,?_⟩
  ·intro a w1 hC e1
   refine Or.inl ⟨_,?_,rfl⟩;go_simp
   first | (go_bits;rfl) | rfl | (rw [if_pos (by omega)])
  refine ⟨rq (Is (.slice a2 n2 k2)) none [(some 7,Is ?vA4)] [] trivial ?_,?_⟩
  ·intro a w1 hC (h4:a.tmps.getD 7 undef=_)
   refine Or.inl ⟨.slice a2 n2 k2,?_,rfl⟩;have bc:=HC0.out.below (qW5 _) hC;have hcw0:=bc.cell 1 _ rfl;clear bc;go_simp
  refine ⟨rq (jM .u8 b2) none [(some 8,Is (.slice a2 n2 k2)),(some 6,jM .u8 b1)] [] trivial ?_,?_⟩
  ·intro a w1 hC (h5:a.tmps.getD 8 undef=_) h3
   refine Or.inr (Or.inl ⟨133,#[.slice a2 n2 k2,.func (.func 134) #[] #[]],?_,?_⟩)
   ·go_simp
   ·refine (qDh a2 n2 k2 rs w1 (HR2.out.below (Bl.step HB0.out hC)) (by omega)).mono ?_
    rintro e w2 ⟨vv,rfl,hown,hbel⟩;rw [EB2.out] at hown;obtain ⟨ao1,cap1,rfl,hrd⟩:=hown.rd;exact ⟨_,rfl,⟨ao1,cap1,rfl,hrd⟩,hbel⟩
  exact trivial
 case hstA=>exact ⟨qB.rd _ _,qB.is _,qB.is _,qB.rd _ _,qB.is _,qB.is _,qB.rd _ _,trivial⟩
 case hendA =>
  intro w1 hC;intro x0 h0;rintro _ rfl;rintro _ rfl;intro x3 h3;rintro _ rfl;rintro _ rfl;intro x6 h6;obtain ⟨ao0,cap0,rfl,hr0⟩:=h0;obtain ⟨ao1,cap1,rfl,hr1⟩:=h3;obtain ⟨ao2,cap2,rfl,hr2⟩:=h6;simp only [xV,Act.put,qXj,qXp,qXo,qXm,qXv]
  have hp:=jE (w:=w1) [⟨ao0,[96].length,cap0,[96]⟩,⟨ao1,b1.length,cap1,b1⟩,⟨ao2,b2.length,cap2,b2⟩] (by
   intro p hp;simp at hp;rcases hp with rfl | rfl | rfl
   ·exact hr0
   ·exact hr1
   ·exact hr2
   ) 37
  have hcc:=jA _ 0 _ 3 _ rfl (by decide) hp (by simp [vC];omega);have HCC:=hid hcc;have HB1:=hid (Bl.step HB0.out hC);clear hp hcc hC hr0 hr1 hr2;go_wp2_with fail;refine HCC.out.mono ?_;rintro e w3 ⟨v3,rfl,hv3,hb3⟩;have HB3:=hid (Bl.step (Bl.alloc HB1.out _) hb3);have HV3:=hid (hv3.lift (Bl.alloc HB1.out _).size);simp only [vY,List.append_nil] at HV3;clear hv3 hb3 HCC;go_wp2_with fail;go_ret;refine ⟨_,rfl,?_,HB3.out⟩;unfold tyE;simp only;rw [EB1.out,EB2.out];exact HV3.out
theorem qG3 (m s:ByteArray) (t:Int) (w:World) (h1:m.size <= 16) (h2:s.size <= 16) (h0:0 <= t) (h3:t <= 1000):Calls Tryz.prog 65 #[.agg #[.string m,.string s,.int .i64 t]] w fun e w'=>∃ v,e=.returned v /\ Own 5 .u8 w.heap.size w' v (imE ⟨m,s,t⟩) /\ Below w.heap.size w w':=by
 obtain ⟨b1,hb1⟩:∃ b1,nmE m=b1:=⟨_,rfl⟩
 have lb1:b1.length <= 100000000:=by rw [<- hb1];exact qN2 m h1
 have EB1:=hid hb1
 obtain ⟨b2,hb2⟩:∃ b2,nmE s=b2:=⟨_,rfl⟩
 have lb2:b2.length <= 100000000:=by rw [<- hb2];exact qN2 s h2
 have EB2:=hid hb2
 obtain ⟨b3,hb3⟩:∃ b3,jG t=b3:=⟨_,rfl⟩
 have lb3:b3.length <= 100000000:=by rw [<- hb3];exact j9 t
 have EB3:=hid hb3;have HC0:=hid (Cel.new w [.string m,.string s,.int .i64 t] 62);have HB0:Hid (Below w.heap.size w (w.alloc (.cells #[.string m,.string s,.int .i64 t] 62))):=hid (Bl.alloc (Bl.refl w) _);clear hb1 hb2 hb3;go_enter Tryz.func65,Tryz.ntmps65;go_wp2_with fail;refine qD 10 (by kernel_rfl) [Is ?vA0,Is (.string m),jM .u8 b1,Is ?vA3,Is (.string s),jM .u8 b2,jM .u8 [0],Is ?vA7,Is (.int .i64 t),jM .u8 b3] [0,1,2,3,4,5,6,7,8,9] rfl (by kernel_rfl) rfl (by kernel_rfl) ?hopA ?hstA ?hendA
 case hopA =>
  refine ⟨rq (Is ?vA0) none [] [(1,.pointer (some ⟨w.heap.size,0,none⟩))] ⟨⟨by kernel_rfl,rfl⟩,trivial⟩ ?_,?_⟩
  ·intro a w1 hC e1
   refine Or.inl ⟨_,?_,rfl⟩;go_simp
   first | (go_bits;rfl) | rfl | (rw [if_pos (by omega)])
  refine ⟨rq (Is (.string m)) none [(some 3,Is ?vA0)] [] trivial ?_,?_⟩
  ·intro a w1 hC (h0:a.tmps.getD 3 undef=_)
   refine Or.inl ⟨.string m,?_,rfl⟩;have bc:=HC0.out.below (qW5 _) hC;have hcw0:=bc.cell 0 _ rfl;clear bc;go_simp
  refine ⟨rq (jM .u8 b1) none [(some 4,Is (.string m))] [] trivial ?_,?_⟩
  ·intro a w1 hC (h1:a.tmps.getD 4 undef=_)
   refine Or.inr (Or.inl ⟨136,#[.string m],?_,?_⟩)
   ·go_simp
   ·refine (qBw m w1 (by omega)).mono ?_
    rintro e w2 ⟨vv,rfl,hown,hbel⟩;rw [EB1.out] at hown;obtain ⟨ao1,cap1,rfl,hrd⟩:=hown.rd;exact ⟨_,rfl,⟨ao1,cap1,rfl,hrd⟩,hbel⟩
  refine ⟨rq (Is ?vA3) none [] [(1,.pointer (some ⟨w.heap.size,0,none⟩))] ⟨⟨by kernel_rfl,rfl⟩,trivial⟩ ?_,?_⟩
  ·intro a w1 hC e1
   refine Or.inl ⟨_,?_,rfl⟩;go_simp
   first | (go_bits;rfl) | rfl | (rw [if_pos (by omega)])
  refine ⟨rq (Is (.string s)) none [(some 6,Is ?vA3)] [] trivial ?_,?_⟩
  ·intro a w1 hC (h3:a.tmps.getD 6 undef=_)
   refine Or.inl ⟨.string s,?_,rfl⟩;have bc:=HC0.out.below (qW5 _) hC;have hcw0:=bc.cell 1 _ rfl;clear bc;go_simp
  refine ⟨rq (jM .u8 b2) none [(some 7,Is (.string s)),(some 5,jM .u8 b1)] [] trivial ?_,?_⟩
  ·intro a w1 hC (h4:a.tmps.getD 7 undef=_) h2
   refine Or.inr (Or.inl ⟨136,#[.string s],?_,?_⟩)
   ·go_simp
   ·refine (qBw s w1 (by omega)).mono ?_
    rintro e w2 ⟨vv,rfl,hown,hbel⟩;rw [EB2.out] at hown;obtain ⟨ao1,cap1,rfl,hrd⟩:=hown.rd;exact ⟨_,rfl,⟨ao1,cap1,rfl,hrd⟩,hbel⟩
  refine ⟨rq (jM .u8 [0]) none [] [] trivial ?_,?_⟩
  ·intro a w1 hC
   refine Or.inr (Or.inr ⟨.slice (some ⟨w1.heap.size,0,none⟩) 1 1,w1.alloc (.cells #[.int .u8 0] 5),?_,⟨_,_,rfl,Rd.built _ _ _ _ (by decide)⟩,Bl.alloc (Bl.refl _) _⟩);go_simp
  refine ⟨rq (Is ?vA7) none [] [(1,.pointer (some ⟨w.heap.size,0,none⟩))] ⟨⟨by kernel_rfl,rfl⟩,trivial⟩ ?_,?_⟩
  ·intro a w1 hC e1
   refine Or.inl ⟨_,?_,rfl⟩;go_simp
   first | (go_bits;rfl) | rfl | (rw [if_pos (by omega)])
  refine ⟨rq (Is (.int .i64 t)) none [(some 10,Is ?vA7)] [] trivial ?_,?_⟩
  ·intro a w1 hC (h7:a.tmps.getD 10 undef=_)
   refine Or.inl ⟨.int .i64 t,?_,rfl⟩;have bc:=HC0.out.below (qW5 _) hC;have hcw0:=bc.cell 2 _ rfl;clear bc;go_simp
  refine ⟨rq (jM .u8 b3) none [(some 11,Is (.int .i64 t)),(some 8,jM .u8 b2)] [] trivial ?_,?_⟩
  ·intro a w1 hC (h8:a.tmps.getD 11 undef=_) h5
   refine Or.inr (Or.inl ⟨67,#[.int .i64 t],?_,?_⟩)
   ·go_simp
   ·refine (qS t w1 (by omega) (by omega)).mono ?_
    rintro e w2 ⟨vv,rfl,hown,hbel⟩;rw [EB3.out] at hown;obtain ⟨ao1,cap1,rfl,hrd⟩:=hown.rd;exact ⟨_,rfl,⟨ao1,cap1,rfl,hrd⟩,hbel⟩
  exact trivial
 case hstA=>exact ⟨qB.is _,qB.is _,qB.rd _ _,qB.is _,qB.is _,qB.rd _ _,qB.rd _ _,qB.is _,qB.is _,qB.rd _ _,trivial⟩
 case hendA =>
  intro w1 hC;rintro _ rfl;rintro _ rfl;intro x2 h2;rintro _ rfl;rintro _ rfl;intro x5 h5;intro x6 h6;rintro _ rfl;rintro _ rfl;intro x9 h9;obtain ⟨ao0,cap0,rfl,hr0⟩:=h2;obtain ⟨ao1,cap1,rfl,hr1⟩:=h5;obtain ⟨ao2,cap2,rfl,hr2⟩:=h6;obtain ⟨ao3,cap3,rfl,hr3⟩:=h9;simp only [xV,Act.put,qXj,qXp,qXo,qXm,qXv]
  have hp:=jE (w:=w1) [⟨ao0,b1.length,cap0,b1⟩,⟨ao1,b2.length,cap1,b2⟩,⟨ao2,[0].length,cap2,[0]⟩,⟨ao3,b3.length,cap3,b3⟩] (by
   intro p hp;simp at hp;rcases hp with rfl | rfl | rfl | rfl
   ·exact hr0
   ·exact hr1
   ·exact hr2
   ·exact hr3
   ) 37
  have hcc:=jA _ 0 _ 4 _ rfl (by decide) hp (by simp [vC];omega);have HCC:=hid hcc;have HB1:=hid (Bl.step HB0.out hC);clear hp hcc hC hr0 hr1 hr2 hr3;go_wp2_with fail;refine HCC.out.mono ?_;rintro e w3 ⟨v3,rfl,hv3,hb3⟩;have HB3:=hid (Bl.step (Bl.alloc HB1.out _) hb3);have HV3:=hid (hv3.lift (Bl.alloc HB1.out _).size);simp only [vY,List.append_nil] at HV3;clear hv3 hb3 HCC;go_wp2_with fail;go_ret;refine ⟨_,rfl,?_,HB3.out⟩;unfold imE;simp only;rw [EB1.out,EB2.out,EB3.out];exact HV3.out
theorem qG4 (m:ByteArray) (t:Int) (w:World) (h1:m.size <= 16) (h0:0 <= t) (h3:t <= 1000):Calls Tryz.prog 75 #[.agg #[.string m,.int .i64 t]] w fun e w'=>∃ v,e=.returned v /\ Own 5 .u8 w.heap.size w' v (exE ⟨m,t⟩) /\ Below w.heap.size w w':=by
 obtain ⟨b1,hb1⟩:∃ b1,nmE m=b1:=⟨_,rfl⟩
 have lb1:b1.length <= 100000000:=by rw [<- hb1];exact qN2 m h1
 have EB1:=hid hb1
 obtain ⟨b3,hb3⟩:∃ b3,jG t=b3:=⟨_,rfl⟩
 have lb3:b3.length <= 100000000:=by rw [<- hb3];exact j9 t
 have EB3:=hid hb3;have HC0:=hid (Cel.new w [.string m,.int .i64 t] 60);have HB0:Hid (Below w.heap.size w (w.alloc (.cells #[.string m,.int .i64 t] 60))):=hid (Bl.alloc (Bl.refl w) _);clear hb1 hb3;go_enter Tryz.func75,Tryz.ntmps75;go_wp2_with fail;refine qD 7 (by kernel_rfl) [Is ?vA0,Is (.string m),jM .u8 b1,jM .u8 [0],Is ?vA4,Is (.int .i64 t),jM .u8 b3] [0,1,2,3,4,5,6] rfl (by kernel_rfl) rfl (by kernel_rfl) ?hopA ?hstA ?hendA
 case hopA =>
  refine ⟨rq (Is ?vA0) none [] [(1,.pointer (some ⟨w.heap.size,0,none⟩))] ⟨⟨by kernel_rfl,rfl⟩,trivial⟩ ?_,?_⟩
  ·intro a w1 hC e1
   refine Or.inl ⟨_,?_,rfl⟩;go_simp
   first | (go_bits;rfl) | rfl | (rw [if_pos (by omega)])
  refine ⟨rq (Is (.string m)) none [(some 3,Is ?vA0)] [] trivial ?_,?_⟩
  ·intro a w1 hC (h0:a.tmps.getD 3 undef=_)
   refine Or.inl ⟨.string m,?_,rfl⟩;have bc:=HC0.out.below (qW5 _) hC;have hcw0:=bc.cell 0 _ rfl;clear bc;go_simp
  refine ⟨rq (jM .u8 b1) none [(some 4,Is (.string m))] [] trivial ?_,?_⟩
  ·intro a w1 hC (h1:a.tmps.getD 4 undef=_)
   refine Or.inr (Or.inl ⟨136,#[.string m],?_,?_⟩)
   ·go_simp
   ·refine (qBw m w1 (by omega)).mono ?_
    rintro e w2 ⟨vv,rfl,hown,hbel⟩;rw [EB1.out] at hown;obtain ⟨ao1,cap1,rfl,hrd⟩:=hown.rd;exact ⟨_,rfl,⟨ao1,cap1,rfl,hrd⟩,hbel⟩
  refine ⟨rq (jM .u8 [0]) none [] [] trivial ?_,?_⟩
  ·intro a w1 hC
   refine Or.inr (Or.inr ⟨.slice (some ⟨w1.heap.size,0,none⟩) 1 1,w1.alloc (.cells #[.int .u8 0] 5),?_,⟨_,_,rfl,Rd.built _ _ _ _ (by decide)⟩,Bl.alloc (Bl.refl _) _⟩);go_simp
  refine ⟨rq (Is ?vA4) none [] [(1,.pointer (some ⟨w.heap.size,0,none⟩))] ⟨⟨by kernel_rfl,rfl⟩,trivial⟩ ?_,?_⟩
  ·intro a w1 hC e1
   refine Or.inl ⟨_,?_,rfl⟩;go_simp
   first | (go_bits;rfl) | rfl | (rw [if_pos (by omega)])
  refine ⟨rq (Is (.int .i64 t)) none [(some 7,Is ?vA4)] [] trivial ?_,?_⟩
  ·intro a w1 hC (h4:a.tmps.getD 7 undef=_)
   refine Or.inl ⟨.int .i64 t,?_,rfl⟩;have bc:=HC0.out.below (qW5 _) hC;have hcw0:=bc.cell 1 _ rfl;clear bc;go_simp
  refine ⟨rq (jM .u8 b3) none [(some 8,Is (.int .i64 t)),(some 5,jM .u8 b1)] [] trivial ?_,?_⟩
  ·intro a w1 hC (h5:a.tmps.getD 8 undef=_) h2
   refine Or.inr (Or.inl ⟨67,#[.int .i64 t],?_,?_⟩)
   ·go_simp
   ·refine (qS t w1 (by omega) (by omega)).mono ?_
    rintro e w2 ⟨vv,rfl,hown,hbel⟩;rw [EB3.out] at hown;obtain ⟨ao1,cap1,rfl,hrd⟩:=hown.rd;exact ⟨_,rfl,⟨ao1,cap1,rfl,hrd⟩,hbel⟩
  exact trivial
 case hstA=>exact ⟨qB.is _,qB.is _,qB.rd _ _,qB.rd _ _,qB.is _,qB.is _,qB.rd _ _,trivial⟩
 case hendA =>
  intro w1 hC;rintro _ rfl;rintro _ rfl;intro x2 h2;intro x3 h3;rintro _ rfl;rintro _ rfl;intro x6 h6;obtain ⟨ao0,cap0,rfl,hr0⟩:=h2;obtain ⟨ao1,cap1,rfl,hr1⟩:=h3;obtain ⟨ao2,cap2,rfl,hr2⟩:=h6;simp only [xV,Act.put,qXj,qXp,qXo,qXm,qXv]
  have hp:=jE (w:=w1) [⟨ao0,b1.length,cap0,b1⟩,⟨ao1,[0].length,cap1,[0]⟩,⟨ao2,b3.length,cap2,b3⟩] (by
   intro p hp;simp at hp;rcases hp with rfl | rfl | rfl
   ·exact hr0
   ·exact hr1
   ·exact hr2
   ) 37
  have hcc:=jA _ 0 _ 3 _ rfl (by decide) hp (by simp [vC];omega);have HCC:=hid hcc;have HB1:=hid (Bl.step HB0.out hC);clear hp hcc hC hr0 hr1 hr2;go_wp2_with fail;refine HCC.out.mono ?_;rintro e w3 ⟨v3,rfl,hv3,hb3⟩;have HB3:=hid (Bl.step (Bl.alloc HB1.out _) hb3);have HV3:=hid (hv3.lift (Bl.alloc HB1.out _).size);simp only [vY,List.append_nil] at HV3;clear hv3 hb3 HCC;go_wp2_with fail;go_ret;refine ⟨_,rfl,?_,HB3.out⟩;unfold exE;simp only;rw [EB1.out,EB3.out];exact HV3.out
theorem qFi (h:Bool) (x y:Int) (w:World) (h0:0 <= x) (h1:x <= 100000) (g0:0 <= y) (g1:y <= 100000):Calls Tryz.prog 71 #[.agg #[.bool h,.int .i64 x,.int .i64 y]] w fun e w'=>∃ v,e=.returned v /\ Own 5 .u8 w.heap.size w' v (1 :: (jG x ++ jG y)) /\ Below w.heap.size w w':=by
 obtain ⟨b1,hb1⟩:∃ b1,jG x=b1:=⟨_,rfl⟩
 have lb1:b1.length <= 100000000:=by rw [<- hb1];exact j9 x
 have EB1:=hid hb1
 obtain ⟨b2,hb2⟩:∃ b2,jG y=b2:=⟨_,rfl⟩
 have lb2:b2.length <= 100000000:=by rw [<- hb2];exact j9 y
 have EB2:=hid hb2;have hy:(y == -1)=false:=by simp;omega
 have HC0:=hid (Cel.new w [.bool h,.int .i64 x,.int .i64 y] 26);have HB0:Hid (Below w.heap.size w (w.alloc (.cells #[.bool h,.int .i64 x,.int .i64 y] 26))):=hid (Bl.alloc (Bl.refl w) _);clear hb1 hb2;go_enter Tryz.func71,Tryz.ntmps71;go_wp2_with fail;refine qD 7 (by kernel_rfl) [jM .u8 [1],Is ?vA1,Is (.int .i64 x),jM .u8 b1,Is ?vA4,Is (.int .i64 y),jM .u8 b2] [0,1,2,3,4,5,6] rfl (by kernel_rfl) rfl (by kernel_rfl) ?hopA ?hstA ?hendA
 case hopA =>
  refine ⟨rq (jM .u8 [1]) none [] [] trivial ?_,?_⟩
  ·intro a w1 hC
   refine Or.inr (Or.inr ⟨.slice (some ⟨w1.heap.size,0,none⟩) 1 1,w1.alloc (.cells #[.int .u8 1] 5),?_,⟨_,_,rfl,Rd.built _ _ _ _ (by decide)⟩,Bl.alloc (Bl.refl _) _⟩);go_simp
  refine ⟨rq (Is ?vA1) none [] [(1,.pointer (some ⟨w.heap.size,0,none⟩))] ⟨⟨by kernel_rfl,rfl⟩,trivial⟩ ?_,?_⟩
  ·intro a w1 hC e1
   refine Or.inl ⟨_,?_,rfl⟩;go_simp
   first | (go_bits;rfl) | rfl | (rw [if_pos (by omega)])
  refine ⟨rq (Is (.int .i64 x)) none [(some 13,Is ?vA1)] [] trivial ?_,?_⟩
  ·intro a w1 hC (h1:a.tmps.getD 13 undef=_)
   refine Or.inl ⟨.int .i64 x,?_,rfl⟩;have bc:=HC0.out.below (qW5 _) hC;have hcw0:=bc.cell 1 _ rfl;clear bc;go_simp
  refine ⟨rq (jM .u8 b1) none [(some 14,Is (.int .i64 x))] [] trivial ?_,?_⟩
  ·intro a w1 hC (h2:a.tmps.getD 14 undef=_)
   refine Or.inr (Or.inl ⟨67,#[.int .i64 x],?_,?_⟩)
   ·go_simp
   ·refine (qS x w1 (by omega) (by omega)).mono ?_
    rintro e w2 ⟨vv,rfl,hown,hbel⟩;rw [EB1.out] at hown;obtain ⟨ao1,cap1,rfl,hrd⟩:=hown.rd;exact ⟨_,rfl,⟨ao1,cap1,rfl,hrd⟩,hbel⟩
  refine ⟨rq (Is ?vA4) none [] [(1,.pointer (some ⟨w.heap.size,0,none⟩))] ⟨⟨by kernel_rfl,rfl⟩,trivial⟩ ?_,?_⟩
  ·intro a w1 hC e1
   refine Or.inl ⟨_,?_,rfl⟩;go_simp
   first | (go_bits;rfl) | rfl | (rw [if_pos (by omega)])
  refine ⟨rq (Is (.int .i64 y)) none [(some 16,Is ?vA4)] [] trivial ?_,?_⟩
  ·intro a w1 hC (h4:a.tmps.getD 16 undef=_)
   refine Or.inl ⟨.int .i64 y,?_,rfl⟩;have bc:=HC0.out.below (qW5 _) hC;have hcw0:=bc.cell 2 _ rfl;clear bc;go_simp
  refine ⟨rq (jM .u8 b2) none [(some 17,Is (.int .i64 y)),(some 15,jM .u8 b1)] [] trivial ?_,?_⟩
  ·intro a w1 hC (h5:a.tmps.getD 17 undef=_) h3
   refine Or.inr (Or.inl ⟨67,#[.int .i64 y],?_,?_⟩)
   ·go_simp
   ·refine (qS y w1 (by omega) (by omega)).mono ?_
    rintro e w2 ⟨vv,rfl,hown,hbel⟩;rw [EB2.out] at hown;obtain ⟨ao1,cap1,rfl,hrd⟩:=hown.rd;exact ⟨_,rfl,⟨ao1,cap1,rfl,hrd⟩,hbel⟩
  exact trivial
 case hstA=>exact ⟨qB.rd _ _,qB.is _,qB.is _,qB.rd _ _,qB.is _,qB.is _,qB.rd _ _,trivial⟩
 case hendA =>
  intro w1 hC;intro x0 h0;rintro _ rfl;rintro _ rfl;intro x3 h3;rintro _ rfl;rintro _ rfl;intro x6 h6;obtain ⟨ao0,cap0,rfl,hr0⟩:=h0;obtain ⟨ao1,cap1,rfl,hr1⟩:=h3;obtain ⟨ao2,cap2,rfl,hr2⟩:=h6;simp only [xV,Act.put,qXj,qXp,qXo,qXm,qXv]
  have hp:=jE (w:=w1) [⟨ao0,[1].length,cap0,[1]⟩,⟨ao1,b1.length,cap1,b1⟩,⟨ao2,b2.length,cap2,b2⟩] (by
   intro p hp;simp at hp;rcases hp with rfl | rfl | rfl
   ·exact hr0
   ·exact hr1
   ·exact hr2
   ) 37
  have hcc:=jA _ 0 _ 3 _ rfl (by decide) hp (by simp [vC];omega);have HCC:=hid hcc;have HB1:=hid (Bl.step HB0.out hC);clear hp hcc hC hr0 hr1 hr2;go_wp2_with fail;refine HCC.out.mono ?_;rintro e w3 ⟨v3,rfl,hv3,hb3⟩;have HB3:=hid (Bl.step (Bl.alloc HB1.out _) hb3);have HV3:=hid (hv3.lift (Bl.alloc HB1.out _).size);simp only [vY,List.append_nil] at HV3;clear hv3 hb3 HCC;go_wp2_with fail;go_ret;refine ⟨_,rfl,?_,HB3.out⟩;rw [EB1.out,EB2.out];exact HV3.out
theorem qG5 (m:Bool) (k n:Int) (w:World) (h:uX k n=true) (hn:-9223372036854775808 <= n /\ n <= 9223372036854775807):Calls Tryz.prog 73 #[.agg #[.bool m,.int .i64 k,.int .i64 n]] w fun e w'=>∃ v,e=.returned v /\ Own 5 .u8 w.heap.size w' v (glE ⟨m,k,n⟩) /\ Below w.heap.size w w':=by
 obtain ⟨b1,hb1⟩:∃ b1,kE k=b1:=⟨_,rfl⟩
 have lb1:b1.length <= 100000000:=by rw [<- hb1];exact by simp [kE]
 have EB1:=hid hb1
 obtain ⟨b3,hb3⟩:∃ b3,qBk k n=b3:=⟨_,rfl⟩
 have lb3:b3.length <= 100000000:=by rw [<- hb3];exact yC k n
 have EB3:=hid hb3;have HV:=hid h;have HN:=hid hn;have HC0:=hid (Cel.new w [.bool m,.int .i64 k,.int .i64 n] 58);have HB0:Hid (Below w.heap.size w (w.alloc (.cells #[.bool m,.int .i64 k,.int .i64 n] 58))):=hid (Bl.alloc (Bl.refl w) _);clear hb1 hb3 h hn;go_enter Tryz.func73,Tryz.ntmps73;go_wp2_with fail;refine qD 10 (by kernel_rfl) [Is ?vA0,Is ?vA1,Is (.int .i64 k),jM .u8 b1,Is ?vA4,Is (.bool m),jM .u8 [muB m],Is ?vA7,Is (.agg #[.int .i64 k,.int .i64 n]),jM .u8 b3] [0,1,2,3,4,5,6,7,8,9] rfl (by kernel_rfl) rfl (by kernel_rfl) ?hopA ?hstA ?hendA
 case hopA =>
  refine ⟨rq (Is ?vA0) none [] [(1,.pointer (some ⟨w.heap.size,0,none⟩))] ⟨⟨by kernel_rfl,rfl⟩,trivial⟩ ?_,?_⟩
  ·intro a w1 hC e1
   refine Or.inl ⟨_,?_,rfl⟩;go_simp
   first | (go_bits;rfl) | rfl | (rw [if_pos (by omega)])
  refine ⟨rq (Is ?vA1) none [(some 3,Is ?vA0)] [] trivial ?_,?_⟩
  ·intro a w1 hC (h0:a.tmps.getD 3 undef=_)
   refine Or.inl ⟨_,?_,rfl⟩;go_simp
   first | (go_bits;rfl) | rfl | (rw [if_pos (by omega)])
  refine ⟨rq (Is (.int .i64 k)) none [(some 4,Is ?vA1)] [] trivial ?_,?_⟩
  ·intro a w1 hC (h1:a.tmps.getD 4 undef=_)
   refine Or.inl ⟨.int .i64 k,?_,rfl⟩;have bc:=HC0.out.below (qW5 _) hC;have hcw0:=bc.cell 1 _ rfl;clear bc;go_simp
  refine ⟨rq (jM .u8 b1) none [(some 5,Is (.int .i64 k))] [] trivial ?_,?_⟩
  ·intro a w1 hC (h2:a.tmps.getD 5 undef=_)
   refine Or.inr (Or.inl ⟨134,#[.int .i64 k],?_,?_⟩)
   ·go_simp
   ·refine (qBv k w1).mono ?_
    rintro e w2 ⟨vv,rfl,hown,hbel⟩;rw [EB1.out] at hown;obtain ⟨ao1,cap1,rfl,hrd⟩:=hown.rd;exact ⟨_,rfl,⟨ao1,cap1,rfl,hrd⟩,hbel⟩
  refine ⟨rq (Is ?vA4) none [] [(1,.pointer (some ⟨w.heap.size,0,none⟩))] ⟨⟨by kernel_rfl,rfl⟩,trivial⟩ ?_,?_⟩
  ·intro a w1 hC e1
   refine Or.inl ⟨_,?_,rfl⟩;go_simp
   first | (go_bits;rfl) | rfl | (rw [if_pos (by omega)])
  refine ⟨rq (Is (.bool m)) none [(some 7,Is ?vA4)] [] trivial ?_,?_⟩
  ·intro a w1 hC (h4:a.tmps.getD 7 undef=_)
   refine Or.inl ⟨.bool m,?_,rfl⟩;have bc:=HC0.out.below (qW5 _) hC;have hcw0:=bc.cell 0 _ rfl;clear bc;go_simp
  refine ⟨rq (jM .u8 [muB m]) none [(some 8,Is (.bool m)),(some 6,jM .u8 b1)] [] trivial ?_,?_⟩
  ·intro a w1 hC (h5:a.tmps.getD 8 undef=_) h3
   refine Or.inr (Or.inl ⟨140,#[.bool m],?_,?_⟩)
   ·go_simp
   ·refine (qNt m w1).mono ?_
    rintro e w2 ⟨vv,rfl,hown,hbel⟩;obtain ⟨ao1,cap1,rfl,hrd⟩:=hown.rd;exact ⟨_,rfl,⟨ao1,cap1,rfl,hrd⟩,hbel⟩
  refine ⟨rq (Is ?vA7) none [] [(1,.pointer (some ⟨w.heap.size,0,none⟩))] ⟨⟨by kernel_rfl,rfl⟩,trivial⟩ ?_,?_⟩
  ·intro a w1 hC e1
   refine Or.inl ⟨_,?_,rfl⟩;go_simp
   first | (go_bits;rfl) | rfl | (rw [if_pos (by omega)])
  refine ⟨rq (Is (.agg #[.int .i64 k,.int .i64 n])) none [(some 10,Is ?vA7)] [] trivial ?_,?_⟩
  ·intro a w1 hC (h7:a.tmps.getD 10 undef=_)
   refine Or.inl ⟨.agg #[.int .i64 k,.int .i64 n],?_,rfl⟩;have bc:=HC0.out.below (qW5 _) hC;have hcw0:=bc.cell 1 _ rfl;have hcw1:=bc.cell 2 _ rfl;clear bc;go_simp
  refine ⟨rq (jM .u8 b3) none [(some 11,Is (.agg #[.int .i64 k,.int .i64 n])),(some 9,jM .u8 [muB m])] [] trivial ?_,?_⟩
  ·intro a w1 hC (h8:a.tmps.getD 11 undef=_) h6
   refine Or.inr (Or.inl ⟨141,#[.agg #[.int .i64 k,.int .i64 n]],?_,?_⟩)
   ·go_simp
   ·refine (qAc k n w1 HV.out HN.out).mono ?_
    rintro e w2 ⟨vv,rfl,hown,hbel⟩;rw [EB3.out] at hown;obtain ⟨ao1,cap1,rfl,hrd⟩:=hown.rd;exact ⟨_,rfl,⟨ao1,cap1,rfl,hrd⟩,hbel⟩
  exact trivial
 case hstA=>exact ⟨qB.is _,qB.is _,qB.is _,qB.rd _ _,qB.is _,qB.is _,qB.rd _ _,qB.is _,qB.is _,qB.rd _ _,trivial⟩
 case hendA =>
  intro w1 hC;rintro _ rfl;rintro _ rfl;rintro _ rfl;intro x3 h3;rintro _ rfl;rintro _ rfl;intro x6 h6;rintro _ rfl;rintro _ rfl;intro x9 h9;obtain ⟨ao0,cap0,rfl,hr0⟩:=h3;obtain ⟨ao1,cap1,rfl,hr1⟩:=h6;obtain ⟨ao2,cap2,rfl,hr2⟩:=h9;simp only [xV,Act.put,qXj,qXp,qXo,qXm,qXv]
  have hp:=jE (w:=w1) [⟨ao0,b1.length,cap0,b1⟩,⟨ao1,[muB m].length,cap1,[muB m]⟩,⟨ao2,b3.length,cap2,b3⟩] (by
   intro p hp;simp at hp;rcases hp with rfl | rfl | rfl
   ·exact hr0
   ·exact hr1
   ·exact hr2
   ) 37
  have hcc:=jA _ 0 _ 3 _ rfl (by decide) hp (by simp [vC];omega);have HCC:=hid hcc;have HB1:=hid (Bl.step HB0.out hC);clear hp hcc hC hr0 hr1 hr2;go_wp2_with fail;refine HCC.out.mono ?_;rintro e w3 ⟨v3,rfl,hv3,hb3⟩;have HB3:=hid (Bl.step (Bl.alloc HB1.out _) hb3);have HV3:=hid (hv3.lift (Bl.alloc HB1.out _).size);simp only [vY,List.append_nil] at HV3;clear hv3 hb3 HCC;go_wp2_with fail;go_ret;refine ⟨_,rfl,?_,HB3.out⟩;have e1:glE ⟨m,k,n⟩=b1 ++ ([muB m] ++ b3):=by rw [<- EB1.out,<- EB3.out];rfl
  rw [e1];exact HV3.out
theorem qLq (o:Int) (a1:Option Addr) (n1 k1:Nat) (fs:List Int) (w:World) (hr1:Rd .i64 w a1 n1 k1 fs) (ho:j6 o=true) (h1:n1 <= 50) (hm:fs.all jQ=true):Calls Tryz.prog 77 #[.agg #[.int .i64 o,.slice a1 n1 k1]] w fun e w'=>∃ v,e=.returned v /\ Own 5 .u8 w.heap.size w' v (elE ⟨o,fs⟩) /\ Below w.heap.size w w':=by
 obtain ⟨b1,hb1⟩:∃ b1,qBk 1 o=b1:=⟨_,rfl⟩
 have lb1:b1.length <= 100000000:=by rw [<- hb1];exact yC 1 o
 have EB1:=hid hb1
 obtain ⟨b2,hb2⟩:∃ b2,qT jG fs=b2:=⟨_,rfl⟩
 have lb2:b2.length <= 100000000:=by rw [<- hb2];exact qQ5 fs (by rw [hr1.len];omega)
 have EB2:=hid hb2;have HR1:=hid hr1;have HO:=hid ho;have HM:=hid hm;have HC0:=hid (Cel.new w [.int .i64 o,.slice a1 n1 k1] 67);have HB0:Hid (Below w.heap.size w (w.alloc (.cells #[.int .i64 o,.slice a1 n1 k1] 67))):=hid (Bl.alloc (Bl.refl w) _);clear hb1 hb2 hr1 ho hm;go_enter Tryz.func77,Tryz.ntmps77;go_wp2_with fail;refine qD 7 (by kernel_rfl) [jM .u8 [0],Is ?vA1,Is (.int .i64 o),jM .u8 b1,Is ?vA4,Is (.slice a1 n1 k1),jM .u8 b2] [0,1,2,3,4,5,6] rfl (by kernel_rfl) rfl (by kernel_rfl) ?hopA ?hstA ?hendA
 case hopA =>
  refine ⟨rq (jM .u8 [0]) none [] [] trivial ?_,?_⟩
  ·intro a w1 hC
   refine Or.inr (Or.inr ⟨.slice (some ⟨w1.heap.size,0,none⟩) 1 1,w1.alloc (.cells #[.int .u8 0] 5),?_,⟨_,_,rfl,Rd.built _ _ _ _ (by decide)⟩,Bl.alloc (Bl.refl _) _⟩);go_simp
  refine ⟨rq (Is ?vA1) none [] [(1,.pointer (some ⟨w.heap.size,0,none⟩))] ⟨⟨by kernel_rfl,rfl⟩,trivial⟩ ?_,?_⟩
  ·intro a w1 hC e1
   refine Or.inl ⟨_,?_,rfl⟩;go_simp
   first | (go_bits;rfl) | rfl | (rw [if_pos (by omega)])
  refine ⟨rq (Is (.int .i64 o)) none [(some 4,Is ?vA1)] [] trivial ?_,?_⟩
  ·intro a w1 hC (h1:a.tmps.getD 4 undef=_)
   refine Or.inl ⟨.int .i64 o,?_,rfl⟩;have bc:=HC0.out.below (qW5 _) hC;have hcw0:=bc.cell 0 _ rfl;clear bc;go_simp
  refine ⟨rq (jM .u8 b1) none [(some 5,Is (.int .i64 o))] [] trivial ?_,?_⟩
  ·intro a w1 hC (h2:a.tmps.getD 5 undef=_)
   refine Or.inr (Or.inl ⟨144,#[.int .i64 o],?_,?_⟩)
   ·go_simp
   ·refine (qGt o w1 HO.out).mono ?_
    rintro e w2 ⟨vv,rfl,hown,hbel⟩;rw [EB1.out] at hown;obtain ⟨ao1,cap1,rfl,hrd⟩:=hown.rd;exact ⟨_,rfl,⟨ao1,cap1,rfl,hrd⟩,hbel⟩
  refine ⟨rq (Is ?vA4) none [] [(1,.pointer (some ⟨w.heap.size,0,none⟩))] ⟨⟨by kernel_rfl,rfl⟩,trivial⟩ ?_,?_⟩
  ·intro a w1 hC e1
   refine Or.inl ⟨_,?_,rfl⟩;go_simp
   first | (go_bits;rfl) | rfl | (rw [if_pos (by omega)])
  refine ⟨rq (Is (.slice a1 n1 k1)) none [(some 7,Is ?vA4)] [] trivial ?_,?_⟩
  ·intro a w1 hC (h4:a.tmps.getD 7 undef=_)
   refine Or.inl ⟨.slice a1 n1 k1,?_,rfl⟩;have bc:=HC0.out.below (qW5 _) hC;have hcw0:=bc.cell 1 _ rfl;clear bc;go_simp
  refine ⟨rq (jM .u8 b2) none [(some 8,Is (.slice a1 n1 k1)),(some 6,jM .u8 b1)] [] trivial ?_,?_⟩
  ·intro a w1 hC (h5:a.tmps.getD 8 undef=_) h3
   refine Or.inr (Or.inl ⟨133,#[.slice a1 n1 k1,.func (.func 67) #[] #[]],?_,?_⟩)
   ·go_simp
   ·refine (qLo a1 n1 k1 fs w1 (HR1.out.below (Bl.step HB0.out hC)) (by omega) HM.out).mono ?_
    rintro e w2 ⟨vv,rfl,hown,hbel⟩;rw [EB2.out] at hown;obtain ⟨ao1,cap1,rfl,hrd⟩:=hown.rd;exact ⟨_,rfl,⟨ao1,cap1,rfl,hrd⟩,hbel⟩
  exact trivial
 case hstA=>exact ⟨qB.rd _ _,qB.is _,qB.is _,qB.rd _ _,qB.is _,qB.is _,qB.rd _ _,trivial⟩
 case hendA =>
  intro w1 hC;intro x0 h0;rintro _ rfl;rintro _ rfl;intro x3 h3;rintro _ rfl;rintro _ rfl;intro x6 h6;obtain ⟨ao0,cap0,rfl,hr0⟩:=h0;obtain ⟨ao1,cap1,rfl,hr1⟩:=h3;obtain ⟨ao2,cap2,rfl,hr2⟩:=h6;simp only [xV,Act.put,qXj,qXp,qXo,qXm,qXv]
  have hp:=jE (w:=w1) [⟨ao0,[0].length,cap0,[0]⟩,⟨ao1,b1.length,cap1,b1⟩,⟨ao2,b2.length,cap2,b2⟩] (by
   intro p hp;simp at hp;rcases hp with rfl | rfl | rfl
   ·exact hr0
   ·exact hr1
   ·exact hr2
   ) 37
  have hcc:=jA _ 0 _ 3 _ rfl (by decide) hp (by simp [vC];omega);have HCC:=hid hcc;have HB1:=hid (Bl.step HB0.out hC);clear hp hcc hC hr0 hr1 hr2;go_wp2_with fail;refine HCC.out.mono ?_;rintro e w3 ⟨v3,rfl,hv3,hb3⟩;have HB3:=hid (Bl.step (Bl.alloc HB1.out _) hb3);have HV3:=hid (hv3.lift (Bl.alloc HB1.out _).size);simp only [vY,List.append_nil] at HV3;clear hv3 hb3 HCC;go_wp2_with fail;go_ret;refine ⟨_,rfl,?_,HB3.out⟩;unfold elE;simp only;rw [EB1.out,EB2.out];exact HV3.out
theorem qLr (o:Int) (a1:Option Addr) (n1 k1:Nat) (bs:List Int) (w:World) (hr1:Rd .u8 w a1 n1 k1 bs) (ho:j6 o=true) (h1:n1 <= 1000):Calls Tryz.prog 81 #[.agg #[.int .i64 o,.slice a1 n1 k1]] w fun e w'=>∃ v,e=.returned v /\ Own 5 .u8 w.heap.size w' v (daE ⟨o,bs⟩) /\ Below w.heap.size w w':=by
 obtain ⟨b1,hb1⟩:∃ b1,qBk 1 o=b1:=⟨_,rfl⟩
 have lb1:b1.length <= 100000000:=by rw [<- hb1];exact yC 1 o
 have EB1:=hid hb1
 obtain ⟨b2,hb2⟩:∃ b2,szE bs=b2:=⟨_,rfl⟩
 have lb2:b2.length <= 100000000:=by rw [<- hb2];exact qRt bs (by rw [hr1.len];omega)
 have EB2:=hid hb2;have HR1:=hid hr1;have HO:=hid ho;have HC0:=hid (Cel.new w [.int .i64 o,.slice a1 n1 k1] 44);have HB0:Hid (Below w.heap.size w (w.alloc (.cells #[.int .i64 o,.slice a1 n1 k1] 44))):=hid (Bl.alloc (Bl.refl w) _);clear hb1 hb2 hr1 ho;go_enter Tryz.func81,Tryz.ntmps81;go_wp2_with fail;refine qD 7 (by kernel_rfl) [jM .u8 [0],Is ?vA1,Is (.int .i64 o),jM .u8 b1,Is ?vA4,Is (.slice a1 n1 k1),jM .u8 b2] [0,1,2,3,4,5,6] rfl (by kernel_rfl) rfl (by kernel_rfl) ?hopA ?hstA ?hendA
 case hopA =>
  refine ⟨rq (jM .u8 [0]) none [] [] trivial ?_,?_⟩
  ·intro a w1 hC
   refine Or.inr (Or.inr ⟨.slice (some ⟨w1.heap.size,0,none⟩) 1 1,w1.alloc (.cells #[.int .u8 0] 5),?_,⟨_,_,rfl,Rd.built _ _ _ _ (by decide)⟩,Bl.alloc (Bl.refl _) _⟩);go_simp
  refine ⟨rq (Is ?vA1) none [] [(1,.pointer (some ⟨w.heap.size,0,none⟩))] ⟨⟨by kernel_rfl,rfl⟩,trivial⟩ ?_,?_⟩
  ·intro a w1 hC e1
   refine Or.inl ⟨_,?_,rfl⟩;go_simp
   first | (go_bits;rfl) | rfl | (rw [if_pos (by omega)])
  refine ⟨rq (Is (.int .i64 o)) none [(some 4,Is ?vA1)] [] trivial ?_,?_⟩
  ·intro a w1 hC (h1:a.tmps.getD 4 undef=_)
   refine Or.inl ⟨.int .i64 o,?_,rfl⟩;have bc:=HC0.out.below (qW5 _) hC;have hcw0:=bc.cell 0 _ rfl;clear bc;go_simp
  refine ⟨rq (jM .u8 b1) none [(some 5,Is (.int .i64 o))] [] trivial ?_,?_⟩
  ·intro a w1 hC (h2:a.tmps.getD 5 undef=_)
   refine Or.inr (Or.inl ⟨144,#[.int .i64 o],?_,?_⟩)
   ·go_simp
   ·refine (qGt o w1 HO.out).mono ?_
    rintro e w2 ⟨vv,rfl,hown,hbel⟩;rw [EB1.out] at hown;obtain ⟨ao1,cap1,rfl,hrd⟩:=hown.rd;exact ⟨_,rfl,⟨ao1,cap1,rfl,hrd⟩,hbel⟩
  refine ⟨rq (Is ?vA4) none [] [(1,.pointer (some ⟨w.heap.size,0,none⟩))] ⟨⟨by kernel_rfl,rfl⟩,trivial⟩ ?_,?_⟩
  ·intro a w1 hC e1
   refine Or.inl ⟨_,?_,rfl⟩;go_simp
   first | (go_bits;rfl) | rfl | (rw [if_pos (by omega)])
  refine ⟨rq (Is (.slice a1 n1 k1)) none [(some 7,Is ?vA4)] [] trivial ?_,?_⟩
  ·intro a w1 hC (h4:a.tmps.getD 7 undef=_)
   refine Or.inl ⟨.slice a1 n1 k1,?_,rfl⟩;have bc:=HC0.out.below (qW5 _) hC;have hcw0:=bc.cell 1 _ rfl;clear bc;go_simp
  refine ⟨rq (jM .u8 b2) none [(some 8,Is (.slice a1 n1 k1)),(some 6,jM .u8 b1)] [] trivial ?_,?_⟩
  ·intro a w1 hC (h5:a.tmps.getD 8 undef=_) h3
   refine Or.inr (Or.inl ⟨131,#[.slice a1 n1 k1],?_,?_⟩)
   ·go_simp
   ·refine (zP a1 n1 k1 bs w1 (HR1.out.below (Bl.step HB0.out hC)) (by omega)).mono ?_
    rintro e w2 ⟨vv,rfl,hown,hbel⟩;rw [EB2.out] at hown;obtain ⟨ao1,cap1,rfl,hrd⟩:=hown.rd;exact ⟨_,rfl,⟨ao1,cap1,rfl,hrd⟩,hbel⟩
  exact trivial
 case hstA=>exact ⟨qB.rd _ _,qB.is _,qB.is _,qB.rd _ _,qB.is _,qB.is _,qB.rd _ _,trivial⟩
 case hendA =>
  intro w1 hC;intro x0 h0;rintro _ rfl;rintro _ rfl;intro x3 h3;rintro _ rfl;rintro _ rfl;intro x6 h6;obtain ⟨ao0,cap0,rfl,hr0⟩:=h0;obtain ⟨ao1,cap1,rfl,hr1⟩:=h3;obtain ⟨ao2,cap2,rfl,hr2⟩:=h6;simp only [xV,Act.put,qXj,qXp,qXo,qXm,qXv]
  have hp:=jE (w:=w1) [⟨ao0,[0].length,cap0,[0]⟩,⟨ao1,b1.length,cap1,b1⟩,⟨ao2,b2.length,cap2,b2⟩] (by
   intro p hp;simp at hp;rcases hp with rfl | rfl | rfl
   ·exact hr0
   ·exact hr1
   ·exact hr2
   ) 37
  have hcc:=jA _ 0 _ 3 _ rfl (by decide) hp (by simp [vC];omega);have HCC:=hid hcc;have HB1:=hid (Bl.step HB0.out hC);clear hp hcc hC hr0 hr1 hr2;go_wp2_with fail;refine HCC.out.mono ?_;rintro e w3 ⟨v3,rfl,hv3,hb3⟩;have HB3:=hid (Bl.step (Bl.alloc HB1.out _) hb3);have HV3:=hid (hv3.lift (Bl.alloc HB1.out _).size);simp only [vY,List.append_nil] at HV3;clear hv3 hb3 HCC;go_wp2_with fail;go_ret;refine ⟨_,rfl,?_,HB3.out⟩;unfold daE;simp only;rw [EB1.out,EB2.out];exact HV3.out
open Go.RowKit
theorem qCa (h:Bool) (x y:Int) (w:World) (h0:0 <= x) (h1:x <= 100000) (g0:-1 <= y) (g1:y <= 100000) :
    Calls Tryz.prog 71 #[.agg #[.bool h,.int .i64 x,.int .i64 y]] w fun e w'=>∃ v,e=.returned v /\ Own 5 .u8 w.heap.size w' v (liE ⟨h,x,y⟩) /\ Below w.heap.size w w':=by
 by_cases hy:y=-1
 ·subst hy
  have e1:liE ⟨h,x,-1⟩=0 :: jG x:=rfl;rw [e1];have hnl:=j9 x;have hpn:=fun w=>qS x w h0 (by omega)
  obtain ⟨ss,hss⟩:∃ ss,ss=jG x:=⟨_,rfl⟩
  rw [<- hss] at hnl hpn ⊢;have HPN:=hid hpn;clear e1 hss hpn;go_enter Tryz.func71,Tryz.ntmps71;go_wp2_with fail;refine (HPN.out _).mono ?_;rintro e w2 ⟨v2,rfl,hv2,hb2⟩;obtain ⟨ao2,cap2,rfl,hr2⟩:=hv2.rd;have HK1:=hid (Rd.built (w.alloc (.cells #[.bool h,.int .i64 x,.int .i64 (-1)] 26)) .u8 5 0 (by decide))
  have hp:=jE (w:=w2) [⟨some ⟨w.heap.size + 1,0,none⟩,1,1,[0]⟩,⟨ao2,ss.length,cap2,ss⟩] (by
   intro p hp;simp at hp;rcases hp with rfl | rfl
   ·have:=HK1.out.below hb2
    simpa using this
   ·exact hr2) 37
  have hcc:=jA _ 0 _ 2 _ rfl (by decide) hp (by simp [vC];omega);have HCC:=hid hcc;have HB2:=hid (Bl.step (Bl.alloc (Bl.alloc (Bl.refl w) _) _) hb2);clear hv2 hb2 hr2 hp hcc HK1;go_wp2_with fail;refine HCC.out.mono ?_;rintro e w3 ⟨v3,rfl,hv3,hb3⟩;have HB3:=hid (Bl.step (Bl.alloc HB2.out _) hb3);have HV3:=hid (hv3.lift (Bl.alloc HB2.out _).size);clear hv3 hb3 HCC;go_wp2_with fail;go_ret;exact ⟨_,rfl,by simpa [vY] using HV3.out,HB3.out⟩
 ·have e1:liE ⟨h,x,y⟩=1 :: (jG x ++ jG y):=by unfold liE;rw [if_neg hy]
  rw [e1];exact qFi h x y w h0 h1 (by omega) g1
theorem qIa (h:Bool) (x y:Int) (w:World) (h0:0 <= x) (h1:x <= 100000) (g0:-1 <= y) (g1:y <= 100000) :
    Calls Tryz.prog 70 #[.agg #[.bool h,.int .i64 x,.int .i64 y]] w fun e w'=>∃ v,e=.returned v /\ Own 5 .u8 w.heap.size w' v (taE ⟨h,x,y⟩) /\ Below w.heap.size w w':=by
 have e1:taE ⟨h,x,y⟩=112 :: liE ⟨h,x,y⟩:=rfl
 rw [e1]
 have hpn:=fun w=>qCa h x y w h0 h1 g0 g1
 have hnl:(liE ⟨h,x,y⟩).length <= 1000:=by
  have h1:=qE 9 x;have h2:=qE 9 y;unfold liE;split <;> simp [jG] <;> omega
 obtain ⟨ss,hss⟩:∃ ss,ss=liE ⟨h,x,y⟩:=⟨_,rfl⟩
 rw [<- hss] at hnl hpn ⊢
 have HPN:=hid hpn
 clear e1 hss hpn
 go_enter Tryz.func70,Tryz.ntmps70
 go_wp2_with fail
 refine (HPN.out _).mono ?_
 rintro e w2 ⟨v2,rfl,hv2,hb2⟩
 obtain ⟨ao2,cap2,rfl,hr2⟩:=hv2.rd
 have HK1:=hid (Rd.built (w.alloc (.cells #[.bool h,.int .i64 x,.int .i64 y] 26)) .u8 5 112 (by decide))
 have hp:=jE (w:=w2) [⟨some ⟨w.heap.size + 1,0,none⟩,1,1,[112]⟩,⟨ao2,ss.length,cap2,ss⟩] (by
  intro p hp;simp at hp;rcases hp with rfl | rfl
  ·have:=HK1.out.below hb2
   simpa using this
  ·exact hr2) 37
 have hcc:=jA _ 0 _ 2 _ rfl (by decide) hp (by simp [vC];omega)
 have HCC:=hid hcc
 have HB2:=hid (Bl.step (Bl.alloc (Bl.alloc (Bl.refl w) _) _) hb2)
 clear hv2 hb2 hr2 hp hcc HK1
 go_wp2_with fail
 refine HCC.out.mono ?_
 rintro e w3 ⟨v3,rfl,hv3,hb3⟩
 have HB3:=hid (Bl.step (Bl.alloc HB2.out _) hb3)
 have HV3:=hid (hv3.lift (Bl.alloc HB2.out _).size)
 clear hv3 hb3 HCC
 go_wp2_with fail
 go_ret
 exact ⟨_,rfl,by simpa [vY] using HV3.out,HB3.out⟩
theorem qQ6 (w:World) (E:TypeId) (r:List Value):OwnC E r.length w.heap.size (w.alloc (.cells r.toArray E)) (.slice (some ⟨w.heap.size,0,none⟩) 1 1) [r] :=
 ⟨⟨by simp,.inr ⟨w.heap.size,1,r.toArray,rfl,qW8 _,heap_alloc_new w _,qW8 _,by decide,by simp,by simp⟩⟩,by simp⟩
theorem qEa (h:Bool) (x y:Int) (w:World) :
    Calls Tryz.prog 69 #[.agg #[.bool h,.int .i64 x,.int .i64 y]] w fun e w'=>∃ v,e=.returned v /\ OwnG 26 3 LiR w.heap.size w' v (jB ⟨h,x,y⟩) /\ Below w.heap.size w w':=by
 cases h
 ·go_enter Tryz.func69,Tryz.ntmps69
  go_wp2_with fail;go_ret;exact ⟨_,rfl,OwnG.nil _ _ _ _ _,Bl.alloc (Bl.refl w) _⟩
 ·go_enter Tryz.func69,Tryz.ntmps69
  go_wp2_with fail;go_ret;refine ⟨_,rfl,?_,Bl.alloc (Bl.alloc (Bl.refl w) _) _⟩;have:=(qQ6 (w.alloc (.cells #[.bool true,.int .i64 x,.int .i64 y] 26)) 26 [.bool true,.int .i64 x,.int .i64 y]).lift (B':=w.heap.size) (by simp);refine ⟨[[.bool true,.int .i64 x,.int .i64 y]],rfl,by simpa using this,fun i cs z h1 h2=>Bx.pure ?_⟩
  cases i with
  | zero=>simp [jB] at h1 h2;subst h1 h2;rfl
  | succ i=>simp at h1
open Go.RowKit
theorem qN4:∀ args w,(callFunc 148 args).run Tryz.prog w=.ok (.enter 148 args) w:=enters_of Tryz.func148 (by kernel_rfl) rfl
theorem qLs:∀ args w,(callFunc 63 args).run Tryz.prog w=.ok (.enter 63 args) w:=enters_of Tryz.func63 (by kernel_rfl) rfl
theorem qG6:∀ args w,(callFunc 65 args).run Tryz.prog w=.ok (.enter 65 args) w:=enters_of Tryz.func65 (by kernel_rfl) rfl
theorem qIb:∀ args w,(callFunc 70 args).run Tryz.prog w=.ok (.enter 70 args) w:=enters_of Tryz.func70 (by kernel_rfl) rfl
theorem qG7:∀ args w,(callFunc 71 args).run Tryz.prog w=.ok (.enter 71 args) w:=enters_of Tryz.func71 (by kernel_rfl) rfl
theorem qG8:∀ args w,(callFunc 73 args).run Tryz.prog w=.ok (.enter 73 args) w:=enters_of Tryz.func73 (by kernel_rfl) rfl
theorem qG9:∀ args w,(callFunc 75 args).run Tryz.prog w=.ok (.enter 75 args) w:=enters_of Tryz.func75 (by kernel_rfl) rfl
theorem qLt:∀ args w,(callFunc 77 args).run Tryz.prog w=.ok (.enter 77 args) w:=enters_of Tryz.func77 (by kernel_rfl) rfl
theorem qLu:∀ args w,(callFunc 79 args).run Tryz.prog w=.ok (.enter 79 args) w:=enters_of Tryz.func79 (by kernel_rfl) rfl
theorem qLv:∀ args w,(callFunc 81 args).run Tryz.prog w=.ok (.enter 81 args) w:=enters_of Tryz.func81 (by kernel_rfl) rfl
theorem qHa {α:Type} (f:α -> List Int) (l:List α) (m:Nat) (hf:∀ x ∈ l,(f x).length <= m):(qT f l).length <= 10 + l.length * m:=by
 have h1:=qE 9 (l.length:Int);have h2:=qM f l m hf;unfold qT;simp only [qW7];omega
theorem qLw (l:List Int):(szE l).length <= 10 + l.length:=by
 have h1:=qE 9 (l.length:Int);unfold szE;simp only [qW7];omega
theorem qIc {xs:List Int} (h:(qC0 xs).isSome=true):xs.length <= 300:=by
 unfold qC0 at h;split at h
 ·simp at h
 ·omega
theorem qTp {l:List Ins} (h:qAm l=true):l.length <= 300 /\ ∀ I ∈ l,zL I=true:=by
 simp [qAm] at h;refine ⟨?_,h.2⟩;have:=qIc h.1;simpa [vP] using this
theorem qId {l:List Ins} (h:qAm l=true):(jN l ++ [11]).length <= 7000000:=by
 obtain ⟨h1,h2⟩:=qTp h;have h3:=qA6 l h2;have h4:l.length * 20001 <= 300 * 20001:=qXl _ h1;simp only [qW7,List.length_singleton];omega
theorem qJn (ls:List Int) (h:ls.length <= 32):(qT ruE (zV ls)).length <= 1000:=by
 have h1:=qHa ruE (zV ls) 11 (fun x _=>by have:=qE 9 x.1;simp [ruE,jG,kE];omega);have h2:=qBa ls;have h3:(zV ls).length * 11 <= 32 * 11:=qXl _ (by omega);omega
theorem qLx (a1:Option Addr) (n1 k1:Nat) (a2:Option Addr) (n2 k2:Nat) (ls:List Int) (bo:List Ins) (w:World) (hr1:Rd .i64 w a1 n1 k1 ls) (hr2:RdP w (fun _=>True) a2 n2 k2 bo) (h1:n1 <= 32) (hbo:qAm bo=true):Calls Tryz.prog 79 #[.agg #[.slice a1 n1 k1,.slice a2 n2 k2]] w fun e w'=>∃ v,e=.returned v /\ Own 5 .u8 w.heap.size w' v (coE ⟨ls,bo⟩) /\ Below w.heap.size w w':=by
 obtain ⟨b1,hb1⟩:∃ b1,qT ruE (zV ls)=b1:=⟨_,rfl⟩
 have lb1:b1.length <= 100000000:=by rw [<- hb1];exact qXk (qJn ls (by rw [hr1.len];exact h1)) (by decide)
 have EB1:=hid hb1
 obtain ⟨b2,hb2⟩:∃ b2,jN bo ++ [11]=b2:=⟨_,rfl⟩
 have lb2:b2.length <= 100000000:=by rw [<- hb2];exact qXk (qId hbo) (by decide)
 have EB2:=hid hb2;have hrl:(zV ls).length <= 1000:=by have:=qBa ls;have:=hr1.len;omega
 have hru:∀ r ∈ zV ls,0 <= r.1 /\ r.1 <= 1000:=fun r hr=>by have:=qH8 ls r hr;have:=hr1.len;omega
 obtain ⟨R,hR⟩:∃ R,zV ls=R:=⟨_,rfl⟩
 rw [hR] at hrl hru hb1;have EB1:=hid hb1;have ER:=hid hR;have HRU:=hid hru;have HR1:=hid hr1;have HR2:=hid hr2;have HBO:=hid (qTp hbo).2;have hbn:n2 <= 1000:=by have:=(qTp hbo).1;have:=hr2.len;omega
 have hres:szE (b1 ++ b2)=coE ⟨ls,bo⟩:=by rw [<- EB1.out,<- EB2.out,<- ER.out];rfl
 rw [<- hres];have HC0:=hid (Cel.new w [.slice a1 n1 k1,.slice a2 n2 k2] 49);have HB0:Hid (Below w.heap.size w (w.alloc (.cells #[.slice a1 n1 k1,.slice a2 n2 k2] 49))):=hid (Bl.alloc (Bl.refl w) _);clear hb1 hb2 hr1 hr2 hR hru hbo hres;go_enter Tryz.func79,Tryz.ntmps79;go_wp2_with fail;refine qD 7 (by kernel_rfl) [Is ?vA0,Is (.slice a1 n1 k1),IsG 2 RuR (R),jM .u8 b1,Is ?vA4,Is (.slice a2 n2 k2),jM .u8 b2] [0,1,2,3,4,5,6] rfl (by kernel_rfl) rfl (by kernel_rfl) ?hopA ?hstA ?hendA
 case hopA =>
  refine ⟨rq (Is ?vA0) none [] [(1,.pointer (some ⟨w.heap.size,0,none⟩))] ⟨⟨by kernel_rfl,rfl⟩,trivial⟩ ?_,?_⟩
  ·intro a w1 hC e1
   refine Or.inl ⟨_,?_,rfl⟩;go_simp
   first | (go_bits;rfl) | rfl | (rw [if_pos (by omega)])
  refine ⟨rq (Is (.slice a1 n1 k1)) none [(some 3,Is ?vA0)] [] trivial ?_,?_⟩
  ·intro a w1 hC (h0:a.tmps.getD 3 undef=_)
   refine Or.inl ⟨.slice a1 n1 k1,?_,rfl⟩;have bc:=HC0.out.below (qW5 _) hC;have hcw0:=bc.cell 0 _ rfl;clear bc;go_simp
  refine ⟨rq (IsG 2 RuR (R)) none [(some 4,Is (.slice a1 n1 k1))] [] trivial ?_,?_⟩
  ·intro a w1 hC (h1:a.tmps.getD 4 undef=_)
   have hrn:=qTn a1 n1 k1 ls w1 (HR1.out.below (Bl.step HB0.out hC)) (by omega);rw [ER.out] at hrn;have HRN:=hid hrn;clear hrn;refine Or.inr (Or.inl ⟨147,#[.slice a1 n1 k1],?_,?_⟩)
   ·go_simp
   ·refine (HRN.out).mono ?_
    rintro e w2 ⟨vv,rfl,hown,hbel⟩;obtain ⟨ao1,cap1,rfl,hrd⟩:=hown.rx;exact ⟨_,rfl,⟨ao1,cap1,rfl,hrd⟩,hbel⟩
  refine ⟨rq (jM .u8 b1) none [(some 5,IsG 2 RuR (R)),(some 5,IsG 2 RuR (R))] [] trivial ?_,?_⟩
  ·intro a w1 hC h2 _
   obtain ⟨aor,capr,e5,hrx⟩:=h2;have e5:a.tmps.getD 5 undef=_:=e5;refine Or.inr (Or.inl ⟨146,#[.slice aor R.length capr,.func (.func 148) #[] #[]],?_,?_⟩)
   ·go_simp
   ·refine (qQv _ ruE aor _ capr R w1 hrx qN4 hrl (fun x _=>by have:=qE 9 x.1;simp [ruE,jG,kE];omega) (fun w cs x hx hR=>by obtain rfl:=hR.now;exact qN3 x.1 x.2 w (HRU.out x hx).1 (HRU.out x hx).2)).mono ?_
    rintro e w2 ⟨vv,rfl,hown,hbel⟩;rw [EB1.out] at hown;obtain ⟨ao1,cap1,rfl,hrd⟩:=hown.rd;exact ⟨_,rfl,⟨ao1,cap1,rfl,hrd⟩,hbel⟩
  refine ⟨rq (Is ?vA4) none [] [(1,.pointer (some ⟨w.heap.size,0,none⟩))] ⟨⟨by kernel_rfl,rfl⟩,trivial⟩ ?_,?_⟩
  ·intro a w1 hC e1
   refine Or.inl ⟨_,?_,rfl⟩;go_simp
   first | (go_bits;rfl) | rfl | (rw [if_pos (by omega)])
  refine ⟨rq (Is (.slice a2 n2 k2)) none [(some 7,Is ?vA4)] [] trivial ?_,?_⟩
  ·intro a w1 hC (h4:a.tmps.getD 7 undef=_)
   refine Or.inl ⟨.slice a2 n2 k2,?_,rfl⟩;have bc:=HC0.out.below (qW5 _) hC;have hcw0:=bc.cell 1 _ rfl;clear bc;go_simp
  refine ⟨rq (jM .u8 b2) none [(some 8,Is (.slice a2 n2 k2)),(some 6,jM .u8 b1)] [] trivial ?_,?_⟩
  ·intro a w1 hC (h5:a.tmps.getD 8 undef=_) h3
   refine Or.inr (Or.inl ⟨149,#[.slice none 0 0,.slice a2 n2 k2],?_,?_⟩)
   ·go_simp
   ·refine (qKo none 0 0 [] _ a2 n2 k2 bo w1 (Rd.empty _ _) (HR2.out.below (Bl.step HB0.out hC)) hbn (by decide) HBO.out).mono ?_
    rintro e w2 ⟨vv,rfl,hown,hbel⟩;rw [List.nil_append,EB2.out] at hown;obtain ⟨ao1,cap1,rfl,hrd⟩:=hown.rd;exact ⟨_,rfl,⟨ao1,cap1,rfl,hrd⟩,hbel⟩
  exact trivial
 case hstA=>exact ⟨qB.is _,qB.is _,qB.g _ _ _,qB.rd _ _,qB.is _,qB.is _,qB.rd _ _,trivial⟩
 case hendA =>
  intro w1 hC;rintro _ rfl;rintro _ rfl;intro x2 h2;intro x3 h3;rintro _ rfl;rintro _ rfl;intro x6 h6;obtain ⟨ao0,cap0,rfl,hr0⟩:=h3;obtain ⟨ao1,cap1,rfl,hr1⟩:=h6;simp only [xV,Act.put,qXj,qXp,qXo,qXm,qXv]
  have hp:=jE (w:=w1) [⟨ao0,b1.length,cap0,b1⟩,⟨ao1,b2.length,cap1,b2⟩] (by
   intro p hp;simp at hp;rcases hp with rfl | rfl
   ·exact hr0
   ·exact hr1
   ) 37
  have hcc:=jA _ 0 _ 2 _ rfl (by decide) hp (by simp [vC];omega);have HCC:=hid hcc;have HB1:=hid (Bl.step HB0.out hC);clear hp hcc hC hr0 hr1;go_wp2_with fail;refine HCC.out.mono ?_;rintro e w3 ⟨v3,rfl,hv3,hb3⟩;have HB3:=hid (Bl.step (Bl.alloc HB1.out _) hb3);have HV3:=hid (hv3.lift (Bl.alloc HB1.out _).size);simp only [vY,List.append_nil] at HV3;clear hv3 hb3 HCC;obtain ⟨ao3,cap3,rfl,hr3⟩:=HV3.out.rd;have HR3:=hid hr3
  obtain ⟨b3,hb3⟩:∃ b3,b1 ++ b2=b3:=⟨_,rfl⟩
  have hl3:b3.length <= 300000000:=by rw [<- hb3];simp;omega
  rw [hb3] at HR3;have EB3:=hid hb3;clear hr3 HV3;go_wp2_with fail;refine (zP ao3 _ cap3 b3 w3 HR3.out (by omega)).mono ?_;rintro e w4 ⟨v4,rfl,hv4,hb4⟩;have HV4:=hid (hv4.lift HB3.out.size);have HB4:=hid (Bl.step HB3.out hb4);clear hv4 hb4 hb3;go_wp2_with fail;go_ret;exact ⟨_,rfl,by rw [EB3.out];exact HV4.out,HB4.out⟩
theorem qAd {α:Type} (k:Int) (f:α -> List Int) (l:List α) (hl:l.length <= 1000) (hf:∀ x ∈ l,(f x).length <= 100000000):(qL k f l).length <= 100000000300:=by
 cases l with
 | nil=>simp [qL]
 | cons x r =>
   have h1:=qHa f (x :: r) 100000000 hf;have h2:=qLw (qT f (x :: r));have h3:(x :: r).length * 100000000 <= 1000 * 100000000:=qXl _ hl;show (k :: szE (qT f (x :: r))).length <= _;rw [qXg];omega
theorem qRu (x:MTy) (hx:xL x=true):(tyE x).length <= 100000000:=by
 have h1:=qHa kE x.ps 1 (fun _ _=>by simp [kE]);have h2:=qHa kE x.rs 1 (fun _ _=>by simp [kE]);simp [xL] at hx;simp only [tyE,qXg,qW7];omega
theorem qIe (ao:Option Addr) (n cap:Nat) (xs:List MTy) (w:World) (h:Rx w fun w=>RdG 2 TyR w ao n cap xs) (hn:n <= 1000) (hm:xs.all xL=true) :
    Calls Tryz.prog 62 #[.int .u8 1,.slice ao n cap,.func (.func 63) #[] #[]] w fun e w'=>∃ v,e=.returned v /\ Own 5 .u8 w.heap.size w' v (qL 1 tyE xs) /\ Below w.heap.size w w' :=
 qQw 1 (by decide) _ tyE ao n cap xs w h qLs hn (fun x hx=>qRu x (qXb.1 hm x hx)) fun w cs x hx' hR=>by
  have hx:=qXb.1 hm x hx';obtain ⟨a1,n1,k1,a2,n2,k2,rfl,hr1,hr2⟩:=hR.now;simp [xL] at hx;exact qLp a1 n1 k1 a2 n2 k2 x.ps x.rs w hr1 hr2 (by rw [<- hr1.len];exact hx.1.1.1) (by rw [<- hr2.len];exact hx.1.1.2)
theorem qRv (x:MIm) (hx:xD x=true):(imE x).length <= 100000000:=by
 have h1:=qLw (nb x.mod);have h2:=qLw (nb x.name);have h3:=qE 9 x.typ;simp [xD,zF] at hx;rw [qA9] at h1 h2;simp only [imE,nmE,jG,qXg,qW7];omega
theorem qFj (ao:Option Addr) (n cap:Nat) (xs:List MIm) (w:World) (h:Rx w fun w=>RdG 3 ImR w ao n cap xs) (hn:n <= 1000) (hm:xs.all xD=true) :
    Calls Tryz.prog 64 #[.int .u8 2,.slice ao n cap,.func (.func 65) #[] #[]] w fun e w'=>∃ v,e=.returned v /\ Own 5 .u8 w.heap.size w' v (qL 2 imE xs) /\ Below w.heap.size w w' :=
 qQx 2 (by decide) _ imE ao n cap xs w h qG6 hn (fun x hx=>qRv x (qXb.1 hm x hx)) fun w cs x hx' hR=>by
  have hx:=qXb.1 hm x hx';obtain rfl:=hR.now;simp [xD,zF,jQ] at hx;exact qG3 x.mod x.name x.typ w (by omega) (by omega) (by omega) (by omega)
theorem qRw (x:MGl) (_hx:yY x=true):(glE x).length <= 100000000:=by
 have h1:=xJ (sh (if x.kind=2 then 66 else 65)) x.n 0 [] (by decide);simp only [glE,qBk,uW,qXg,qW7,qXq];omega
theorem qFk (ao:Option Addr) (n cap:Nat) (xs:List MGl) (w:World) (h:Rx w fun w=>RdG 3 GlR w ao n cap xs) (hn:n <= 1000) (hm:xs.all yY=true) :
    Calls Tryz.prog 72 #[.int .u8 6,.slice ao n cap,.func (.func 73) #[] #[]] w fun e w'=>∃ v,e=.returned v /\ Own 5 .u8 w.heap.size w' v (qL 6 glE xs) /\ Below w.heap.size w w' :=
 qQy 6 (by decide) _ glE ao n cap xs w h qG8 hn (fun x hx=>qRw x (qXb.1 hm x hx)) fun w cs x hx' hR=>by
  have hx:=qXb.1 hm x hx';obtain ⟨rfl,h1,h2⟩:=hR.now;exact qG5 x.mu x.kind x.n w hx ⟨h1,h2⟩
theorem qRx (x:MEx) (hx:xM x=true):(exE x).length <= 100000000:=by
 have h1:=qLw (nb x.name);have h3:=qE 9 x.fn;simp [xM,zF] at hx;rw [qA9] at h1;simp only [exE,nmE,jG,qXg,qW7];omega
theorem qFl (ao:Option Addr) (n cap:Nat) (xs:List MEx) (w:World) (h:Rx w fun w=>RdG 2 ExR w ao n cap xs) (hn:n <= 1000) (hm:xs.all xM=true) :
    Calls Tryz.prog 74 #[.int .u8 7,.slice ao n cap,.func (.func 75) #[] #[]] w fun e w'=>∃ v,e=.returned v /\ Own 5 .u8 w.heap.size w' v (qL 7 exE xs) /\ Below w.heap.size w w' :=
 qQz 7 (by decide) _ exE ao n cap xs w h qG9 hn (fun x hx=>qRx x (qXb.1 hm x hx)) fun w cs x hx' hR=>by
  have hx:=qXb.1 hm x hx';obtain rfl:=hR.now;simp [xM,zF,jQ] at hx;exact qG4 x.name x.fn w (by omega) (by omega) (by omega)
theorem qRy (x:MEl) (hx:zT x=true):(elE x).length <= 100000000:=by
 have h1:=xJ (sh 65) x.off 0 [] (by decide);have h2:=qHa jG x.fs 10 (fun y _=>qE 9 y);simp [zT] at hx;have e:qBk 1 x.off=uW 65 x.off 0 [] ++ [11]:=rfl;simp only [elE,e,uW,qXg,qW7,qXq];omega
theorem qIf (ao:Option Addr) (n cap:Nat) (xs:List MEl) (w:World) (h:Rx w fun w=>RdG 2 ElR w ao n cap xs) (hn:n <= 1000) (hm:xs.all zT=true) :
    Calls Tryz.prog 76 #[.int .u8 9,.slice ao n cap,.func (.func 77) #[] #[]] w fun e w'=>∃ v,e=.returned v /\ Own 5 .u8 w.heap.size w' v (qL 9 elE xs) /\ Below w.heap.size w w' :=
 qQ0 9 (by decide) _ elE ao n cap xs w h qLt hn (fun x hx=>qRy x (qXb.1 hm x hx)) fun w cs x hx' hR=>by
  have hx:=qXb.1 hm x hx';obtain ⟨a1,n1,k1,rfl,hr1⟩:=hR.now;simp only [zT,qXi,decide_eq_true_eq] at hx;exact qLq x.off a1 n1 k1 x.fs w hr1 hx.1.1 (by rw [<- hr1.len];exact hx.1.2) hx.2
theorem qRz (x:MCo) (hx:zM x=true):(coE x).length <= 100000000:=by
 simp only [zM,qXi,decide_eq_true_eq] at hx;have h1:=qJn x.ls hx.1.1;have h2:=qId hx.2;have h3:=qLw (qT ruE (zV x.ls) ++ (jN x.body ++ [11]));rw [qW7] at h3;unfold coE;omega
theorem qIg (ao:Option Addr) (n cap:Nat) (xs:List MCo) (w:World) (h:Rx w fun w=>RdG 2 CoR w ao n cap xs) (hn:n <= 1000) (hm:xs.all zM=true) :
    Calls Tryz.prog 78 #[.int .u8 10,.slice ao n cap,.func (.func 79) #[] #[]] w fun e w'=>∃ v,e=.returned v /\ Own 5 .u8 w.heap.size w' v (qL 10 coE xs) /\ Below w.heap.size w w' :=
 qQ1 10 (by decide) _ coE ao n cap xs w h qLu hn (fun x hx=>qRz x (qXb.1 hm x hx)) fun w cs x hx' hR=>by
  have hx:=qXb.1 hm x hx';obtain ⟨a1,n1,k1,a2,n2,k2,rfl,hr1,hr2⟩:=hR.now;simp only [zM,qXi,decide_eq_true_eq] at hx;exact qLx a1 n1 k1 a2 n2 k2 x.ls x.body w hr1 hr2.insP (by rw [<- hr1.len];exact hx.1.1) hx.2
theorem qR0 (x:MDa) (hx:zG x=true):(daE x).length <= 100000000:=by
 have h1:=xJ (sh 65) x.off 0 [] (by decide);have h2:=qLw x.bs;simp [zG] at hx;have e:qBk 1 x.off=uW 65 x.off 0 [] ++ [11]:=rfl;simp only [daE,e,uW,qXg,qW7,qXq];omega
theorem qIh (ao:Option Addr) (n cap:Nat) (xs:List MDa) (w:World) (h:Rx w fun w=>RdG 2 DaR w ao n cap xs) (hn:n <= 1000) (hm:xs.all zG=true) :
    Calls Tryz.prog 80 #[.int .u8 11,.slice ao n cap,.func (.func 81) #[] #[]] w fun e w'=>∃ v,e=.returned v /\ Own 5 .u8 w.heap.size w' v (qL 11 daE xs) /\ Below w.heap.size w w' :=
 qQ2 11 (by decide) _ daE ao n cap xs w h qLv hn (fun x hx=>qR0 x (qXb.1 hm x hx)) fun w cs x hx' hR=>by
  have hx:=qXb.1 hm x hx';obtain ⟨a1,n1,k1,rfl,hr1⟩:=hR.now;simp only [zG,qXi,decide_eq_true_eq] at hx;exact qLr x.off a1 n1 k1 x.bs w hr1 hx.1 (by rw [<- hr1.len];exact hx.2)
theorem qIi (ao:Option Addr) (n cap:Nat) (xs:List Int) (w:World) (h:Rd .i64 w ao n cap xs) (hn:n <= 1000) (hm:xs.all jQ=true) :
    Calls Tryz.prog 66 #[.int .u8 3,.slice ao n cap,.func (.func 67) #[] #[]] w fun e w'=>∃ v,e=.returned v /\ Own 5 .u8 w.heap.size w' v (qL 3 jG xs) /\ Below w.heap.size w w' :=
 qTm 3 (by decide) _ jG ao n cap xs w (h.rx.imp fun _ h=>h.ints) qB9 hn (fun x _=>j9 x) fun w cs x hx hR=>by
  obtain ⟨rfl,_⟩:=hR.now;have:=qXb.1 hm x hx;simp [jQ] at this;exact qS x w this.1 (by omega)
theorem qVe {x:MLi} {a b:Int} (ha:a <= 100000) (hb:b <= 100000) (h:zS x a b=true):∀ y ∈ jB x,0 <= y.mn /\ y.mn <= 100000 /\ -1 <= y.mx /\ y.mx <= 100000:=by
 intro y hy;unfold jB at hy;unfold zS at h;split at hy
 ·next hh =>
  simp at hy;subst hy;rw [if_pos hh] at h;simp at h;omega
 ·cases hy
theorem qJo (x:MLi):(liE x).length <= 1000:=by
 have h1:=qE 9 x.mn;have h2:=qE 9 x.mx;unfold liE;split <;> simp [jG] <;> omega
theorem qIj (ao:Option Addr) (n cap:Nat) (xs:List MLi) (w:World) (h:Rx w fun w=>RdG 3 LiR w ao n cap xs) (hn:n <= 1000) (hm:∀ y ∈ xs,0 <= y.mn /\ y.mn <= 100000 /\ -1 <= y.mx /\ y.mx <= 100000) :
    Calls Tryz.prog 68 #[.int .u8 4,.slice ao n cap,.func (.func 70) #[] #[]] w fun e w'=>∃ v,e=.returned v /\ Own 5 .u8 w.heap.size w' v (qL 4 taE xs) /\ Below w.heap.size w w' :=
 qJk 4 (by decide) _ taE ao n cap xs w h qIb hn (fun x _=>by have:=qJo x;simp [taE];omega) fun w cs x hx hR=>by
  obtain rfl:=hR.now;have:=hm x hx;exact qIa x.has x.mn x.mx w this.1 this.2.1 this.2.2.1 this.2.2.2
theorem qN5 (ao:Option Addr) (n cap:Nat) (xs:List MLi) (w:World) (h:Rx w fun w=>RdG 3 LiR w ao n cap xs) (hn:n <= 1000) (hm:∀ y ∈ xs,0 <= y.mn /\ y.mn <= 100000 /\ -1 <= y.mx /\ y.mx <= 100000) :
    Calls Tryz.prog 68 #[.int .u8 5,.slice ao n cap,.func (.func 71) #[] #[]] w fun e w'=>∃ v,e=.returned v /\ Own 5 .u8 w.heap.size w' v (qL 5 liE xs) /\ Below w.heap.size w w' :=
 qJk 5 (by decide) _ liE ao n cap xs w h qG7 hn (fun x _=>by have:=qJo x;omega) fun w cs x hx hR=>by
  obtain rfl:=hR.now;have:=hm x hx;exact qCa x.has x.mn x.mx w this.1 this.2.1 this.2.2.1 this.2.2.2
open Go.RowKit
theorem uS (x:MLi):(jB x).length <= 1000:=by unfold jB;split <;> simp
theorem qIk (ot:Option Addr) (nt ct:Nat) (oi:Option Addr) (ni ci:Nat) (of:Option Addr) (nf cf:Nat) (th:Bool) (tm tx:Int) (mh:Bool) (mm mx:Int) (og:Option Addr) (ng cg:Nat) (oe:Option Addr) (ne ce:Nat) (ol:Option Addr) (nl cl:Nat) (oc:Option Addr) (nc cc:Nat) (od:Option Addr) (nd cd:Nat)
    (T:List MTy) (I:List MIm) (F:List Int) (G:List MGl) (E:List MEx) (L:List MEl) (C:List MCo) (D:List MDa) (w:World)
    (hT:Rx w fun w=>RdG 2 TyR w ot nt ct T) (nT:nt <= 1000) (mT:T.all xL=true)
    (hI:Rx w fun w=>RdG 3 ImR w oi ni ci I) (nI:ni <= 1000) (mI:I.all xD=true)
    (hF:Rd .i64 w of nf cf F) (nF:nf <= 1000) (mF:F.all jQ=true)
    (hG:Rx w fun w=>RdG 3 GlR w og ng cg G) (nG:ng <= 1000) (mG:G.all yY=true)
    (hE:Rx w fun w=>RdG 2 ExR w oe ne ce E) (nE:ne <= 1000) (mE:E.all xM=true)
    (hL:Rx w fun w=>RdG 2 ElR w ol nl cl L) (nL:nl <= 1000) (mL:L.all zT=true)
    (hC:Rx w fun w=>RdG 2 CoR w oc nc cc C) (nC:nc <= 1000) (mC:C.all zM=true)
    (hD:Rx w fun w=>RdG 2 DaR w od nd cd D) (nD:nd <= 1000) (mD:D.all zG=true)
    (ht:zS ⟨th,tm,tx⟩ 16 1000=true) (hm:zS ⟨mh,mm,mx⟩ 16 65536=true):Calls Tryz.prog 29 #[.agg #[.slice ot nt ct,.slice oi ni ci,.slice of nf cf,.bool th,.int .i64 tm,.int .i64 tx,.bool mh,.int .i64 mm,.int .i64 mx,.slice og ng cg,.slice oe ne ce,.slice ol nl cl,.slice oc nc cc,.slice od nd cd]] w fun e w'=>∃ v,e=.returned v /\ Own 5 .u8 w.heap.size w' v (moE ⟨T,I,F,⟨th,tm,tx⟩,⟨mh,mm,mx⟩,G,E,L,C,D⟩) /\ Below w.heap.size w w':=by
 obtain ⟨b1,hb1⟩:∃ b1,qL 1 tyE T=b1:=⟨_,rfl⟩
 have lb1:b1.length <= 100000000300:=by rw [<- hb1];exact qAd _ _ _ (by rw [hT.now.len];exact nT) (fun y hy=>qRu y (qXb.1 mT y hy))
 have EB1:=hid hb1
 obtain ⟨b2,hb2⟩:∃ b2,qL 2 imE I=b2:=⟨_,rfl⟩
 have lb2:b2.length <= 100000000300:=by rw [<- hb2];exact qAd _ _ _ (by rw [hI.now.len];exact nI) (fun y hy=>qRv y (qXb.1 mI y hy))
 have EB2:=hid hb2
 obtain ⟨b3,hb3⟩:∃ b3,qL 3 jG F=b3:=⟨_,rfl⟩
 have lb3:b3.length <= 100000000300:=by rw [<- hb3];exact qAd _ _ _ (by rw [hF.len];exact nF) (fun y _=>j9 y)
 have EB3:=hid hb3
 obtain ⟨b6,hb6⟩:∃ b6,qL 6 glE G=b6:=⟨_,rfl⟩
 have lb6:b6.length <= 100000000300:=by rw [<- hb6];exact qAd _ _ _ (by rw [hG.now.len];exact nG) (fun y hy=>qRw y (qXb.1 mG y hy))
 have EB6:=hid hb6
 obtain ⟨b7,hb7⟩:∃ b7,qL 7 exE E=b7:=⟨_,rfl⟩
 have lb7:b7.length <= 100000000300:=by rw [<- hb7];exact qAd _ _ _ (by rw [hE.now.len];exact nE) (fun y hy=>qRx y (qXb.1 mE y hy))
 have EB7:=hid hb7
 obtain ⟨b9,hb9⟩:∃ b9,qL 9 elE L=b9:=⟨_,rfl⟩
 have lb9:b9.length <= 100000000300:=by rw [<- hb9];exact qAd _ _ _ (by rw [hL.now.len];exact nL) (fun y hy=>qRy y (qXb.1 mL y hy))
 have EB9:=hid hb9
 obtain ⟨b10,hb10⟩:∃ b10,qL 10 coE C=b10:=⟨_,rfl⟩
 have lb10:b10.length <= 100000000300:=by rw [<- hb10];exact qAd _ _ _ (by rw [hC.now.len];exact nC) (fun y hy=>qRz y (qXb.1 mC y hy))
 have EB10:=hid hb10
 obtain ⟨b11,hb11⟩:∃ b11,qL 11 daE D=b11:=⟨_,rfl⟩
 have lb11:b11.length <= 100000000300:=by rw [<- hb11];exact qAd _ _ _ (by rw [hD.now.len];exact nD) (fun y hy=>qR0 y (qXb.1 mD y hy))
 have EB11:=hid hb11
 obtain ⟨b4,hb4⟩:∃ b4,qL 4 taE (jB ⟨th,tm,tx⟩)=b4:=⟨_,rfl⟩
 have lb4:b4.length <= 100000000300:=by rw [<- hb4];exact qAd _ _ _ (uS _) (fun y _=>by have:=qJo y;simp [taE];omega)
 have EB4:=hid hb4
 obtain ⟨b5,hb5⟩:∃ b5,qL 5 liE (jB ⟨mh,mm,mx⟩)=b5:=⟨_,rfl⟩
 have lb5:b5.length <= 100000000300:=by rw [<- hb5];exact qAd _ _ _ (uS _) (fun y _=>by have:=qJo y;omega)
 have EB5:=hid hb5
 have HT:=hid hT
 have MT:=hid mT
 have HI:=hid hI
 have MI:=hid mI
 have HF:=hid hF
 have MF:=hid mF
 have HG:=hid hG
 have MG:=hid mG
 have HE:=hid hE
 have ME:=hid mE
 have HL:=hid hL
 have ML:=hid mL
 have HC:=hid hC
 have MC:=hid mC
 have HD:=hid hD
 have MD:=hid mD
 have HT4:=hid (qVe (by decide) (by decide) ht)
 have HT5:=hid (qVe (by decide) (by decide) hm)
 have hres:yX ++ (b1 ++ (b2 ++ (b3 ++ (b4 ++ (b5 ++ (b6 ++ (b7 ++ (b9 ++ (b10 ++ b11)))))))))=moE ⟨T,I,F,⟨th,tm,tx⟩,⟨mh,mm,mx⟩,G,E,L,C,D⟩:=by rw [<- EB1.out,<- EB2.out,<- EB3.out,<- EB4.out,<- EB5.out,<- EB6.out,<- EB7.out,<- EB9.out,<- EB10.out,<- EB11.out];rfl
 rw [<- hres]
 obtain ⟨P4,hP4⟩:∃ P4,jB ⟨th,tm,tx⟩=P4:=⟨_,rfl⟩
 obtain ⟨P5,hP5⟩:∃ P5,jB ⟨mh,mm,mx⟩=P5:=⟨_,rfl⟩
 rw [hP4] at HT4 EB4
 rw [hP5] at HT5 EB5
 have hp4:P4.length <= 1000:=by rw [<- hP4];exact uS _
 have hp5:P5.length <= 1000:=by rw [<- hP5];exact uS _
 have EP4:=hid hP4
 have EP5:=hid hP5
 have lhd:yX.length=8:=rfl
 have HC0:=hid (Cel.new w [.slice ot nt ct,.slice oi ni ci,.slice of nf cf,.bool th,.int .i64 tm,.int .i64 tx,.bool mh,.int .i64 mm,.int .i64 mx,.slice og ng cg,.slice oe ne ce,.slice ol nl cl,.slice oc nc cc,.slice od nd cd] 33)
 have HB0:Hid (Below w.heap.size w (w.alloc (.cells #[.slice ot nt ct,.slice oi ni ci,.slice of nf cf,.bool th,.int .i64 tm,.int .i64 tx,.bool mh,.int .i64 mm,.int .i64 mx,.slice og ng cg,.slice oe ne ce,.slice ol nl cl,.slice oc nc cc,.slice od nd cd] 33))):=hid (Bl.alloc (Bl.refl w) _)
 clear hb1 hb2 hb3 hb4 hb5 hb6 hb7 hb9 hb10 hb11 hT mT hI mI hF mF hG mG hE mE hL mL hC mC hD mD ht hm hres hP4 hP5
 go_enter Tryz.func29,Tryz.ntmps29
 go_wp2_with fail
 refine qAh 34 (by kernel_rfl) (qSf (w.heap.size + 1) 5 (yX.map (Value.int .u8)) :: jM .u8 yX :: Is ?vA2 :: Is (.slice ot nt ct) :: jM .u8 b1 :: Is ?vA5 :: Is (.slice oi ni ci) :: jM .u8 b2 :: Is ?vA8 :: Is (.slice of nf cf) :: jM .u8 b3 :: Is ?vA11 :: Is (.agg #[.bool th,.int .i64 tm,.int .i64 tx]) :: IsP 3 LiR (P4) :: jM .u8 b4 :: Is ?vA15 :: Is (.agg #[.bool mh,.int .i64 mm,.int .i64 mx]) :: IsP 3 LiR (P5) :: jM .u8 b5 :: Is ?vA19 :: Is (.slice og ng cg) :: jM .u8 b6 :: Is ?vA22 :: Is (.slice oe ne ce) :: jM .u8 b7 :: Is ?vA25 :: Is (.slice ol nl cl) :: jM .u8 b9 :: Is ?vA28 :: Is (.slice oc nc cc) :: jM .u8 b10 :: Is ?vA31 :: Is (.slice od nd cd) :: jM .u8 b11 :: []) 1 (0 :: 2 :: 3 :: 4 :: 5 :: 6 :: 7 :: 8 :: 9 :: 10 :: 11 :: 12 :: 13 :: 14 :: 15 :: 16 :: 17 :: 18 :: 19 :: 20 :: 21 :: 22 :: 23 :: 24 :: 25 :: 26 :: 27 :: 28 :: 29 :: 30 :: 31 :: 32 :: 33 :: []) rfl (by kernel_rfl) (by decide) (by kernel_rfl) ?hopA ?hspA ?hstA ?hendA
 case hopA =>
  refine ⟨rq (qSf (w.heap.size + 1) 5 (yX.map (Value.int .u8))) none [] [] trivial ?_,?_⟩
  ·intro a w1 hC
   refine Or.inr (Or.inr ⟨.slice (some ⟨w1.heap.size,0,none⟩) 8 8,w1.alloc (.cells #[.int .u8 0,.int .u8 97,.int .u8 115,.int .u8 109,.int .u8 1,.int .u8 0,.int .u8 0,.int .u8 0] 5),?_,⟨w1.heap.size,(0,0),rfl,by have:=hC.size;simpa using this,heap_alloc_new w1 _⟩,Bl.alloc (Bl.refl _) _⟩);go_simp
  refine ⟨rq (Is ?vA2) none [] [(1,.pointer (some ⟨w.heap.size,0,none⟩))] ⟨⟨by kernel_rfl,rfl⟩,trivial⟩ ?_,?_⟩
  ·intro a w1 hC e1
   refine Or.inl ⟨_,?_,rfl⟩;go_simp
   first | (go_bits;rfl) | rfl | (rw [if_pos (by omega)])
  refine ⟨rq (Is (.slice ot nt ct)) none [(some 5,Is ?vA2)] [] trivial ?_,?_⟩
  ·intro a w1 hC (h2:a.tmps.getD 5 undef=_)
   refine Or.inl ⟨.slice ot nt ct,?_,rfl⟩;have bc:=HC0.out.below (qW5 _) hC;have hcw0:=bc.cell 0 _ rfl;clear bc;go_simp
  refine ⟨rq (jM .u8 b1) none [(some 6,Is (.slice ot nt ct))] [] trivial ?_,?_⟩
  ·intro a w1 hC (h3:a.tmps.getD 6 undef=_)
   refine Or.inr (Or.inl ⟨62,#[.int .u8 1,.slice ot nt ct,.func (.func 63) #[] #[]],?_,?_⟩)
   ·go_simp
   ·refine (qIe ot nt ct T w1 (HT.out.below (Bl.step HB0.out hC)) nT MT.out).mono ?_
    rintro e w2 ⟨vv,rfl,hown,hbel⟩;rw [EB1.out] at hown;obtain ⟨ao1,cap1,rfl,hrd⟩:=hown.rd;exact ⟨_,rfl,⟨ao1,cap1,rfl,hrd⟩,hbel⟩
  refine ⟨rq (Is ?vA5) none [] [(1,.pointer (some ⟨w.heap.size,0,none⟩))] ⟨⟨by kernel_rfl,rfl⟩,trivial⟩ ?_,?_⟩
  ·intro a w1 hC e1
   refine Or.inl ⟨_,?_,rfl⟩;go_simp
   first | (go_bits;rfl) | rfl | (rw [if_pos (by omega)])
  refine ⟨rq (Is (.slice oi ni ci)) none [(some 8,Is ?vA5)] [] trivial ?_,?_⟩
  ·intro a w1 hC (h5:a.tmps.getD 8 undef=_)
   refine Or.inl ⟨.slice oi ni ci,?_,rfl⟩;have bc:=HC0.out.below (qW5 _) hC;have hcw0:=bc.cell 1 _ rfl;clear bc;go_simp
  refine ⟨rq (jM .u8 b2) none [(some 9,Is (.slice oi ni ci)),(some 7,jM .u8 b1)] [] trivial ?_,?_⟩
  ·intro a w1 hC (h6:a.tmps.getD 9 undef=_) h4
   refine Or.inr (Or.inl ⟨64,#[.int .u8 2,.slice oi ni ci,.func (.func 65) #[] #[]],?_,?_⟩)
   ·go_simp
   ·refine (qFj oi ni ci I w1 (HI.out.below (Bl.step HB0.out hC)) nI MI.out).mono ?_
    rintro e w2 ⟨vv,rfl,hown,hbel⟩;rw [EB2.out] at hown;obtain ⟨ao1,cap1,rfl,hrd⟩:=hown.rd;exact ⟨_,rfl,⟨ao1,cap1,rfl,hrd⟩,hbel⟩
  refine ⟨rq (Is ?vA8) none [] [(1,.pointer (some ⟨w.heap.size,0,none⟩))] ⟨⟨by kernel_rfl,rfl⟩,trivial⟩ ?_,?_⟩
  ·intro a w1 hC e1
   refine Or.inl ⟨_,?_,rfl⟩;go_simp
   first | (go_bits;rfl) | rfl | (rw [if_pos (by omega)])
  refine ⟨rq (Is (.slice of nf cf)) none [(some 11,Is ?vA8)] [] trivial ?_,?_⟩
  ·intro a w1 hC (h8:a.tmps.getD 11 undef=_)
   refine Or.inl ⟨.slice of nf cf,?_,rfl⟩;have bc:=HC0.out.below (qW5 _) hC;have hcw0:=bc.cell 2 _ rfl;clear bc;go_simp
  refine ⟨rq (jM .u8 b3) none [(some 12,Is (.slice of nf cf)),(some 10,jM .u8 b2)] [] trivial ?_,?_⟩
  ·intro a w1 hC (h9:a.tmps.getD 12 undef=_) h7
   refine Or.inr (Or.inl ⟨66,#[.int .u8 3,.slice of nf cf,.func (.func 67) #[] #[]],?_,?_⟩)
   ·go_simp
   ·refine (qIi of nf cf F w1 (HF.out.below (Bl.step HB0.out hC)) nF MF.out).mono ?_
    rintro e w2 ⟨vv,rfl,hown,hbel⟩;rw [EB3.out] at hown;obtain ⟨ao1,cap1,rfl,hrd⟩:=hown.rd;exact ⟨_,rfl,⟨ao1,cap1,rfl,hrd⟩,hbel⟩
  refine ⟨rq (Is ?vA11) none [] [(1,.pointer (some ⟨w.heap.size,0,none⟩))] ⟨⟨by kernel_rfl,rfl⟩,trivial⟩ ?_,?_⟩
  ·intro a w1 hC e1
   refine Or.inl ⟨_,?_,rfl⟩;go_simp
   first | (go_bits;rfl) | rfl | (rw [if_pos (by omega)])
  refine ⟨rq (Is (.agg #[.bool th,.int .i64 tm,.int .i64 tx])) none [(some 14,Is ?vA11)] [] trivial ?_,?_⟩
  ·intro a w1 hC (h11:a.tmps.getD 14 undef=_)
   refine Or.inl ⟨.agg #[.bool th,.int .i64 tm,.int .i64 tx],?_,rfl⟩;have bc:=HC0.out.below (qW5 _) hC;have hcw0:=bc.cell 3 _ rfl;have hcw1:=bc.cell 4 _ rfl;have hcw2:=bc.cell 5 _ rfl;clear bc;go_simp
  refine ⟨rq (IsP 3 LiR (P4)) none [(some 15,Is (.agg #[.bool th,.int .i64 tm,.int .i64 tx])),(some 13,jM .u8 b3)] [] trivial ?_,?_⟩
  ·intro a w1 hC (h12:a.tmps.getD 15 undef=_) h10
   have hpr:=qEa th tm tx w1;rw [EP4.out] at hpr;have HPR:=hid hpr;clear hpr;refine Or.inr (Or.inl ⟨69,#[.agg #[.bool th,.int .i64 tm,.int .i64 tx]],?_,?_⟩)
   ·go_simp
   ·refine (HPR.out).mono ?_
    rintro e w2 ⟨vv,rfl,hown,hbel⟩;obtain ⟨ao1,cap1,rfl,hrd⟩:=hown.rx;exact ⟨_,rfl,⟨ao1,cap1,rfl,hrd.now⟩,hbel⟩
  refine ⟨rq (jM .u8 b4) none [(some 16,IsP 3 LiR (P4)),(some 16,IsP 3 LiR (P4))] [] trivial ?_,?_⟩
  ·intro a w1 hC h13 _
   obtain ⟨aor,capr,e5,hrp⟩:=h13;have hrx:=qRl (fun _ _ _ _ h=>h) hrp;have e5:a.tmps.getD 16 undef=_:=e5;refine Or.inr (Or.inl ⟨68,#[.int .u8 4,.slice aor P4.length capr,.func (.func 70) #[] #[]],?_,?_⟩)
   ·go_simp
   ·refine (qIj aor _ capr P4 w1 hrx hp4 HT4.out).mono ?_
    rintro e w2 ⟨vv,rfl,hown,hbel⟩;rw [EB4.out] at hown;obtain ⟨ao1,cap1,rfl,hrd⟩:=hown.rd;exact ⟨_,rfl,⟨ao1,cap1,rfl,hrd⟩,hbel⟩
  refine ⟨rq (Is ?vA15) none [] [(1,.pointer (some ⟨w.heap.size,0,none⟩))] ⟨⟨by kernel_rfl,rfl⟩,trivial⟩ ?_,?_⟩
  ·intro a w1 hC e1
   refine Or.inl ⟨_,?_,rfl⟩;go_simp
   first | (go_bits;rfl) | rfl | (rw [if_pos (by omega)])
  refine ⟨rq (Is (.agg #[.bool mh,.int .i64 mm,.int .i64 mx])) none [(some 18,Is ?vA15)] [] trivial ?_,?_⟩
  ·intro a w1 hC (h15:a.tmps.getD 18 undef=_)
   refine Or.inl ⟨.agg #[.bool mh,.int .i64 mm,.int .i64 mx],?_,rfl⟩;have bc:=HC0.out.below (qW5 _) hC;have hcw0:=bc.cell 6 _ rfl;have hcw1:=bc.cell 7 _ rfl;have hcw2:=bc.cell 8 _ rfl;clear bc;go_simp
  refine ⟨rq (IsP 3 LiR (P5)) none [(some 19,Is (.agg #[.bool mh,.int .i64 mm,.int .i64 mx])),(some 17,jM .u8 b4)] [] trivial ?_,?_⟩
  ·intro a w1 hC (h16:a.tmps.getD 19 undef=_) h14
   have hpr:=qEa mh mm mx w1;rw [EP5.out] at hpr;have HPR:=hid hpr;clear hpr;refine Or.inr (Or.inl ⟨69,#[.agg #[.bool mh,.int .i64 mm,.int .i64 mx]],?_,?_⟩)
   ·go_simp
   ·refine (HPR.out).mono ?_
    rintro e w2 ⟨vv,rfl,hown,hbel⟩;obtain ⟨ao1,cap1,rfl,hrd⟩:=hown.rx;exact ⟨_,rfl,⟨ao1,cap1,rfl,hrd.now⟩,hbel⟩
  refine ⟨rq (jM .u8 b5) none [(some 20,IsP 3 LiR (P5)),(some 20,IsP 3 LiR (P5))] [] trivial ?_,?_⟩
  ·intro a w1 hC h17 _
   obtain ⟨aor,capr,e5,hrp⟩:=h17;have hrx:=qRl (fun _ _ _ _ h=>h) hrp;have e5:a.tmps.getD 20 undef=_:=e5;refine Or.inr (Or.inl ⟨68,#[.int .u8 5,.slice aor P5.length capr,.func (.func 71) #[] #[]],?_,?_⟩)
   ·go_simp
   ·refine (qN5 aor _ capr P5 w1 hrx hp5 HT5.out).mono ?_
    rintro e w2 ⟨vv,rfl,hown,hbel⟩;rw [EB5.out] at hown;obtain ⟨ao1,cap1,rfl,hrd⟩:=hown.rd;exact ⟨_,rfl,⟨ao1,cap1,rfl,hrd⟩,hbel⟩
  refine ⟨rq (Is ?vA19) none [] [(1,.pointer (some ⟨w.heap.size,0,none⟩))] ⟨⟨by kernel_rfl,rfl⟩,trivial⟩ ?_,?_⟩
  ·intro a w1 hC e1
   refine Or.inl ⟨_,?_,rfl⟩;go_simp
   first | (go_bits;rfl) | rfl | (rw [if_pos (by omega)])
  refine ⟨rq (Is (.slice og ng cg)) none [(some 22,Is ?vA19)] [] trivial ?_,?_⟩
  ·intro a w1 hC (h19:a.tmps.getD 22 undef=_)
   refine Or.inl ⟨.slice og ng cg,?_,rfl⟩;have bc:=HC0.out.below (qW5 _) hC;have hcw0:=bc.cell 9 _ rfl;clear bc;go_simp
  refine ⟨rq (jM .u8 b6) none [(some 23,Is (.slice og ng cg)),(some 21,jM .u8 b5)] [] trivial ?_,?_⟩
  ·intro a w1 hC (h20:a.tmps.getD 23 undef=_) h18
   refine Or.inr (Or.inl ⟨72,#[.int .u8 6,.slice og ng cg,.func (.func 73) #[] #[]],?_,?_⟩)
   ·go_simp
   ·refine (qFk og ng cg G w1 (HG.out.below (Bl.step HB0.out hC)) nG MG.out).mono ?_
    rintro e w2 ⟨vv,rfl,hown,hbel⟩;rw [EB6.out] at hown;obtain ⟨ao1,cap1,rfl,hrd⟩:=hown.rd;exact ⟨_,rfl,⟨ao1,cap1,rfl,hrd⟩,hbel⟩
  refine ⟨rq (Is ?vA22) none [] [(1,.pointer (some ⟨w.heap.size,0,none⟩))] ⟨⟨by kernel_rfl,rfl⟩,trivial⟩ ?_,?_⟩
  ·intro a w1 hC e1
   refine Or.inl ⟨_,?_,rfl⟩;go_simp
   first | (go_bits;rfl) | rfl | (rw [if_pos (by omega)])
  refine ⟨rq (Is (.slice oe ne ce)) none [(some 25,Is ?vA22)] [] trivial ?_,?_⟩
  ·intro a w1 hC (h22:a.tmps.getD 25 undef=_)
   refine Or.inl ⟨.slice oe ne ce,?_,rfl⟩;have bc:=HC0.out.below (qW5 _) hC;have hcw0:=bc.cell 10 _ rfl;clear bc;go_simp
  refine ⟨rq (jM .u8 b7) none [(some 26,Is (.slice oe ne ce)),(some 24,jM .u8 b6)] [] trivial ?_,?_⟩
  ·intro a w1 hC (h23:a.tmps.getD 26 undef=_) h21
   refine Or.inr (Or.inl ⟨74,#[.int .u8 7,.slice oe ne ce,.func (.func 75) #[] #[]],?_,?_⟩)
   ·go_simp
   ·refine (qFl oe ne ce E w1 (HE.out.below (Bl.step HB0.out hC)) nE ME.out).mono ?_
    rintro e w2 ⟨vv,rfl,hown,hbel⟩;rw [EB7.out] at hown;obtain ⟨ao1,cap1,rfl,hrd⟩:=hown.rd;exact ⟨_,rfl,⟨ao1,cap1,rfl,hrd⟩,hbel⟩
  refine ⟨rq (Is ?vA25) none [] [(1,.pointer (some ⟨w.heap.size,0,none⟩))] ⟨⟨by kernel_rfl,rfl⟩,trivial⟩ ?_,?_⟩
  ·intro a w1 hC e1
   refine Or.inl ⟨_,?_,rfl⟩;go_simp
   first | (go_bits;rfl) | rfl | (rw [if_pos (by omega)])
  refine ⟨rq (Is (.slice ol nl cl)) none [(some 28,Is ?vA25)] [] trivial ?_,?_⟩
  ·intro a w1 hC (h25:a.tmps.getD 28 undef=_)
   refine Or.inl ⟨.slice ol nl cl,?_,rfl⟩;have bc:=HC0.out.below (qW5 _) hC;have hcw0:=bc.cell 11 _ rfl;clear bc;go_simp
  refine ⟨rq (jM .u8 b9) none [(some 29,Is (.slice ol nl cl)),(some 27,jM .u8 b7)] [] trivial ?_,?_⟩
  ·intro a w1 hC (h26:a.tmps.getD 29 undef=_) h24
   refine Or.inr (Or.inl ⟨76,#[.int .u8 9,.slice ol nl cl,.func (.func 77) #[] #[]],?_,?_⟩)
   ·go_simp
   ·refine (qIf ol nl cl L w1 (HL.out.below (Bl.step HB0.out hC)) nL ML.out).mono ?_
    rintro e w2 ⟨vv,rfl,hown,hbel⟩;rw [EB9.out] at hown;obtain ⟨ao1,cap1,rfl,hrd⟩:=hown.rd;exact ⟨_,rfl,⟨ao1,cap1,rfl,hrd⟩,hbel⟩
  refine ⟨rq (Is ?vA28) none [] [(1,.pointer (some ⟨w.heap.size,0,none⟩))] ⟨⟨by kernel_rfl,rfl⟩,trivial⟩ ?_,?_⟩
  ·intro a w1 hC e1
   refine Or.inl ⟨_,?_,rfl⟩;go_simp
   first | (go_bits;rfl) | rfl | (rw [if_pos (by omega)])
  refine ⟨rq (Is (.slice oc nc cc)) none [(some 31,Is ?vA28)] [] trivial ?_,?_⟩
  ·intro a w1 hC (h28:a.tmps.getD 31 undef=_)
   refine Or.inl ⟨.slice oc nc cc,?_,rfl⟩;have bc:=HC0.out.below (qW5 _) hC;have hcw0:=bc.cell 12 _ rfl;clear bc;go_simp
  refine ⟨rq (jM .u8 b10) none [(some 32,Is (.slice oc nc cc)),(some 30,jM .u8 b9)] [] trivial ?_,?_⟩
  ·intro a w1 hC (h29:a.tmps.getD 32 undef=_) h27
   refine Or.inr (Or.inl ⟨78,#[.int .u8 10,.slice oc nc cc,.func (.func 79) #[] #[]],?_,?_⟩)
   ·go_simp
   ·refine (qIg oc nc cc C w1 (HC.out.below (Bl.step HB0.out hC)) nC MC.out).mono ?_
    rintro e w2 ⟨vv,rfl,hown,hbel⟩;rw [EB10.out] at hown;obtain ⟨ao1,cap1,rfl,hrd⟩:=hown.rd;exact ⟨_,rfl,⟨ao1,cap1,rfl,hrd⟩,hbel⟩
  refine ⟨rq (Is ?vA31) none [] [(1,.pointer (some ⟨w.heap.size,0,none⟩))] ⟨⟨by kernel_rfl,rfl⟩,trivial⟩ ?_,?_⟩
  ·intro a w1 hC e1
   refine Or.inl ⟨_,?_,rfl⟩;go_simp
   first | (go_bits;rfl) | rfl | (rw [if_pos (by omega)])
  refine ⟨rq (Is (.slice od nd cd)) none [(some 34,Is ?vA31)] [] trivial ?_,?_⟩
  ·intro a w1 hC (h31:a.tmps.getD 34 undef=_)
   refine Or.inl ⟨.slice od nd cd,?_,rfl⟩;have bc:=HC0.out.below (qW5 _) hC;have hcw0:=bc.cell 13 _ rfl;clear bc;go_simp
  refine ⟨rq (jM .u8 b11) none [(some 35,Is (.slice od nd cd)),(some 33,jM .u8 b10)] [] trivial ?_,?_⟩
  ·intro a w1 hC (h32:a.tmps.getD 35 undef=_) h30
   refine Or.inr (Or.inl ⟨80,#[.int .u8 11,.slice od nd cd,.func (.func 81) #[] #[]],?_,?_⟩)
   ·go_simp
   ·refine (qIh od nd cd D w1 (HD.out.below (Bl.step HB0.out hC)) nD MD.out).mono ?_
    rintro e w2 ⟨vv,rfl,hown,hbel⟩;rw [EB11.out] at hown;obtain ⟨ao1,cap1,rfl,hrd⟩:=hown.rd;exact ⟨_,rfl,⟨ao1,cap1,rfl,hrd⟩,hbel⟩
  exact trivial
 case hspA =>
  refine zB.special (j:=0) (d:=4) rfl rfl rfl (by kernel_rfl) ?_;rintro a w1 hC ⟨q,f,e5,hq,hc⟩;have e5:a.tmps.getD 3 undef=.slice (some ⟨q,0,none⟩) 8 8:=e5;obtain ⟨w2,f2,hrun,o1,o2,o3,o4,o5,o6⟩:=qI3 (P:=Tryz.prog) 37 5 Tryz.underlying37 Tryz.underlying5 w1 q 8 8 _ f hc;refine ⟨.slice (some ⟨q,0,none⟩) 8 8,w2,?_,⟨some ⟨q,0,none⟩,8,rfl,qRm .u8 yX o6 (by decide) (by decide)⟩,⟨o1,o2,o3,by omega,fun k hk=>o5 k (by simp at hk;omega)⟩,fun k hk=>?_⟩
  ·go_simp
  ·by_cases e:k=q
   ·subst e
    exact .inr ⟨_,_,_,_,hc,o6⟩
   ·exact .inl (o5 k e)
 case hstA=>exact ⟨qJ.lit _ _ _,qJ.rd _ _,qJ.is _,qJ.is _,qJ.rd _ _,qJ.is _,qJ.is _,qJ.rd _ _,qJ.is _,qJ.is _,qJ.rd _ _,qJ.is _,qJ.is _,qJ.p (fun _ _ _ _ h=>h) _,qJ.rd _ _,qJ.is _,qJ.is _,qJ.p (fun _ _ _ _ h=>h) _,qJ.rd _ _,qJ.is _,qJ.is _,qJ.rd _ _,qJ.is _,qJ.is _,qJ.rd _ _,qJ.is _,qJ.is _,qJ.rd _ _,qJ.is _,qJ.is _,qJ.rd _ _,qJ.is _,qJ.is _,qJ.rd _ _,trivial⟩
 case hendA =>
  intro w1 hC;intro x0 h0;intro x1 h1;rintro _ rfl;rintro _ rfl;intro x4 h4;rintro _ rfl;rintro _ rfl;intro x7 h7;rintro _ rfl;rintro _ rfl;intro x10 h10;rintro _ rfl;rintro _ rfl;intro x13 h13;intro x14 h14;rintro _ rfl;rintro _ rfl;intro x17 h17;intro x18 h18;rintro _ rfl;rintro _ rfl;intro x21 h21;rintro _ rfl;rintro _ rfl;intro x24 h24;rintro _ rfl;rintro _ rfl;intro x27 h27;rintro _ rfl;rintro _ rfl;intro x30 h30;rintro _ rfl;rintro _ rfl;intro x33 h33;obtain ⟨ao0,cap0,rfl,hr0⟩:=h1;obtain ⟨ao1,cap1,rfl,hr1⟩:=h4;obtain ⟨ao2,cap2,rfl,hr2⟩:=h7;obtain ⟨ao3,cap3,rfl,hr3⟩:=h10;obtain ⟨ao4,cap4,rfl,hr4⟩:=h14;obtain ⟨ao5,cap5,rfl,hr5⟩:=h18;obtain ⟨ao6,cap6,rfl,hr6⟩:=h21;obtain ⟨ao7,cap7,rfl,hr7⟩:=h24;obtain ⟨ao8,cap8,rfl,hr8⟩:=h27;obtain ⟨ao9,cap9,rfl,hr9⟩:=h30;obtain ⟨ao10,cap10,rfl,hr10⟩:=h33;simp only [xV,Act.put,qXj,qXp,qXo,qXm,qXv]
  have hp:=jE (w:=w1) [⟨ao0,yX.length,cap0,yX⟩,⟨ao1,b1.length,cap1,b1⟩,⟨ao2,b2.length,cap2,b2⟩,⟨ao3,b3.length,cap3,b3⟩,⟨ao4,b4.length,cap4,b4⟩,⟨ao5,b5.length,cap5,b5⟩,⟨ao6,b6.length,cap6,b6⟩,⟨ao7,b7.length,cap7,b7⟩,⟨ao8,b9.length,cap8,b9⟩,⟨ao9,b10.length,cap9,b10⟩,⟨ao10,b11.length,cap10,b11⟩] (by
   intro p hp;simp at hp;rcases hp with rfl | rfl | rfl | rfl | rfl | rfl | rfl | rfl | rfl | rfl | rfl
   ·exact hr0
   ·exact hr1
   ·exact hr2
   ·exact hr3
   ·exact hr4
   ·exact hr5
   ·exact hr6
   ·exact hr7
   ·exact hr8
   ·exact hr9
   ·exact hr10
   ) 37
  have hcc:=jA _ 0 _ 11 _ rfl (by decide) hp (by simp [vC];omega);have HCC:=hid hcc;have HB1:=hid (Bl.step HB0.out hC);clear hp hcc hC hr0 hr1 hr2 hr3 hr4 hr5 hr6 hr7 hr8 hr9 hr10;go_wp2_with fail;refine HCC.out.mono ?_;rintro e w3 ⟨v3,rfl,hv3,hb3⟩;have HB3:=hid (Bl.step (Bl.alloc HB1.out _) hb3);have HV3:=hid (hv3.lift (Bl.alloc HB1.out _).size);simp only [vY,List.append_nil] at HV3;clear hv3 hb3 HCC;go_wp2_with fail;go_ret;refine ⟨_,rfl,?_,HB3.out⟩;exact HV3.out
theorem qBy (V:MoV) (M:MMo) (w:World) (h:Rx w (MoR V M)) (hc:jH M=true) (hp:qV M=true) :
    Calls Tryz.prog 29 #[.agg (V.cells M).toArray] w fun e w'=>∃ v,e=.returned v /\ Own 5 .u8 w.heap.size w' v (moE M) /\ Below w.heap.size w w':=by
 simp only [jH,qXi,decide_eq_true_eq,beq_iff_eq] at hc
 simp only [qV,qXi] at hp
 obtain ⟨⟨⟨⟨⟨⟨c1,c2⟩,c3⟩,c4⟩,c5⟩,c6⟩,c7⟩:=hc
 obtain ⟨⟨⟨⟨⟨⟨⟨⟨⟨p1,p2⟩,p3⟩,p4⟩,p5⟩,p6⟩,p7⟩,p8⟩,p9⟩,p10⟩:=hp
 have hn:=h.now
 rw [hn.t.len] at c1
 rw [hn.i.len,hn.f.len] at c2
 rw [hn.g.len] at c3
 rw [hn.e.len] at c4
 rw [hn.l.len] at c5
 rw [hn.d.len] at c6
 rw [hn.c.len,hn.f.len] at c7
 exact qIk _ _ _ _ _ _ _ _ _ _ _ _ _ _ _ _ _ _ _ _ _ _ _ _ _ _ _ _ _ _ _ _ _ _ _ _ _ _ w (h.imp fun _ h=>h.t) (by omega) p1 (h.imp fun _ h=>h.i) (by omega) p2 hn.f (by omega) p3
  (h.imp fun _ h=>h.g) (by omega) p6 (h.imp fun _ h=>h.e) (by omega) p7 (h.imp fun _ h=>h.l) (by omega) p8 (h.imp fun _ h=>h.c) (by omega) p9 (h.imp fun _ h=>h.d) (by omega) p10 p4 p5
open Go.RowKit
theorem uG (V:MoV) (M:MMo) (w:World) (h:Rx w (MoR V M)) (hI:M.imports.length <= 1000000) (hF:M.funcs.length <= 1000000) :
    Calls Tryz.prog 12 #[.agg (V.cells M).toArray] w fun e w'=>e=.returned (.bool (jT M)) /\ Below w.heap.size w w':=by
 have hc:=fun w1 (hb:Below w.heap.size w w1)=>qG2 V M w1 (h.below hb) hI hF
 have hp:=fun w1 (hb:Below w.heap.size w w1)=>qH9 V M w1 (h.below hb)
 have he:=fun w1 (hb:Below w.heap.size w w1) (a:jH M=true) (b:qV M=true)=>qBy V M w1 (h.below hb) a b
 have e1:jT M=(jH M && qV M && decide ((moE M).length <= 8000)):=rfl
 rw [e1]
 obtain ⟨t1,ht1⟩:∃ t1,jH M=t1:=⟨_,rfl⟩
 obtain ⟨t2,ht2⟩:∃ t2,qV M=t2:=⟨_,rfl⟩
 obtain ⟨bs,hbs⟩:∃ bs,moE M=bs:=⟨_,rfl⟩
 rw [ht1] at hc he
 rw [ht2] at hp he
 rw [hbs] at he
 rw [ht1,ht2,hbs]
 simp only [MoV.cells] at hc hp he ⊢
 obtain ⟨T,I,F,⟨th,tm,tx⟩,⟨mh,mm,mx⟩,G,E,L,C,D⟩:=M
 obtain ⟨⟨ot,nt,ct⟩,⟨oi,ni,ci⟩,⟨of,nf,cf⟩,⟨og,ng,cg⟩,⟨oe,ne,ce⟩,⟨ol,nl,cl⟩,⟨oc,nc,cc⟩,⟨od,nd,cd⟩⟩:=V
 simp only at hc hp he ⊢
 have HCC:=hid hc
 have HPP:=hid hp
 have HEE:=hid he
 have HC0:=hid (Cel.new w [.slice ot nt ct,.slice oi ni ci,.slice of nf cf,.bool th,.int .i64 tm,.int .i64 tx,.bool mh,.int .i64 mm,.int .i64 mx,.slice og ng cg,.slice oe ne ce,.slice ol nl cl,.slice oc nc cc,.slice od nd cd] 33)
 clear hc hp he h ht1 ht2 hbs e1 hI hF
 go_enter Tryz.func12,Tryz.ntmps12
 go_wp2_with fail
 refine (HCC.out _ (Bl.alloc (Bl.refl w) _)).mono ?_
 rintro e w1 ⟨rfl,hb⟩
 have HB1:=hid (Bl.step (Bl.alloc (Bl.refl w) _) hb)
 have HC1:=hid (HC0.out.below (qW5 _) hb)
 clear hb HCC HC0
 cases t1 with
 | false =>
   go_wp2_with fail;go_ret;exact ⟨rfl,HB1.out⟩
 | true =>
   have c0:=HC1.out.cell 0 _ rfl;have c1:=HC1.out.cell 1 _ rfl;have c2:=HC1.out.cell 2 _ rfl;have c3:=HC1.out.cell 3 _ rfl;have c4:=HC1.out.cell 4 _ rfl;have c5:=HC1.out.cell 5 _ rfl;have c6:=HC1.out.cell 6 _ rfl;have c7:=HC1.out.cell 7 _ rfl;have c8:=HC1.out.cell 8 _ rfl;have c9:=HC1.out.cell 9 _ rfl;have c10:=HC1.out.cell 10 _ rfl;have c11:=HC1.out.cell 11 _ rfl;have c12:=HC1.out.cell 12 _ rfl;have c13:=HC1.out.cell 13 _ rfl;go_wp2_with fail;refine (HPP.out w1 HB1.out).mono ?_;rintro e w2 ⟨rfl,hb⟩;have HB2:=hid (Bl.step HB1.out hb);have HC2:=hid (HC1.out.below (qW5 _) hb);clear hb HPP HC1 c0 c1 c2 c3 c4 c5 c6 c7 c8 c9 c10 c11 c12 c13
   cases t2 with
   | false =>
     go_wp2_with fail;go_ret;exact ⟨rfl,HB2.out⟩
   | true =>
     have c0:=HC2.out.cell 0 _ rfl;have c1:=HC2.out.cell 1 _ rfl;have c2:=HC2.out.cell 2 _ rfl;have c3:=HC2.out.cell 3 _ rfl;have c4:=HC2.out.cell 4 _ rfl;have c5:=HC2.out.cell 5 _ rfl;have c6:=HC2.out.cell 6 _ rfl;have c7:=HC2.out.cell 7 _ rfl;have c8:=HC2.out.cell 8 _ rfl;have c9:=HC2.out.cell 9 _ rfl;have c10:=HC2.out.cell 10 _ rfl;have c11:=HC2.out.cell 11 _ rfl;have c12:=HC2.out.cell 12 _ rfl;have c13:=HC2.out.cell 13 _ rfl;go_wp2_with fail;refine (HEE.out w2 HB2.out (by first | trivial | rfl) (by first | trivial | rfl)).mono ?_;rintro e w3 ⟨v,rfl,hv,hb⟩;obtain ⟨ao1,cap1,rfl,hr1⟩:=hv.rd;have HB3:=hid (Bl.step HB2.out hb)
     obtain ⟨bn,hbn⟩:∃ bn,bn=bs.length:=⟨_,rfl⟩
     rw [<- hbn];have HBN:=hid hbn;clear hb HEE HC2 hv hr1 hbn c0 c1 c2 c3 c4 c5 c6 c7 c8 c9 c10 c11 c12 c13;by_cases hle:bn <= 8000
     ·have hle':(bn:Int) <= 8000:=by omega
      go_wp2_with fail;go_ret;exact ⟨rb (by have:=HBN.out;simp;omega),HB3.out⟩
     ·have hle':¬ (bn:Int) <= 8000:=by omega
      go_wp2_with fail;go_ret;exact ⟨rb (by have:=HBN.out;simp;omega),HB3.out⟩
def qQ7 (M:MMo):List Int:=if jT M=true then moE M else []
theorem qBe (V:MoV) (M:MMo) (w:World) (h:Rx w (MoR V M)) (hI:M.imports.length <= 1000000) (hF:M.funcs.length <= 1000000) :
    Calls Tryz.prog 11 #[.agg (V.cells M).toArray] w fun e w'=>∃ v,e=.returned v /\ Own 5 .u8 w.heap.size w' v (qQ7 M) /\ Below w.heap.size w w':=by
 have hc:=fun w1 (hb:Below w.heap.size w w1)=>uG V M w1 (h.below hb) hI hF
 have he:=fun w1 (hb:Below w.heap.size w w1) (a:jT M=true)=>qBy V M w1 (h.below hb) (by simp only [jT,qXi] at a;exact a.1.1) (by simp only [jT,qXi] at a;exact a.1.2)
 unfold qQ7
 obtain ⟨t1,ht1⟩:∃ t1,jT M=t1:=⟨_,rfl⟩
 obtain ⟨bs,hbs⟩:∃ bs,moE M=bs:=⟨_,rfl⟩
 rw [ht1] at hc he
 rw [hbs] at he
 rw [ht1,hbs]
 simp only [MoV.cells] at hc he ⊢
 obtain ⟨T,I,F,⟨th,tm,tx⟩,⟨mh,mm,mx⟩,G,E,L,C,D⟩:=M
 obtain ⟨⟨ot,nt,ct⟩,⟨oi,ni,ci⟩,⟨of,nf,cf⟩,⟨og,ng,cg⟩,⟨oe,ne,ce⟩,⟨ol,nl,cl⟩,⟨oc,nc,cc⟩,⟨od,nd,cd⟩⟩:=V
 simp only at hc he ⊢
 have HCC:=hid hc
 have HEE:=hid he
 have HC0:=hid (Cel.new w [.slice ot nt ct,.slice oi ni ci,.slice of nf cf,.bool th,.int .i64 tm,.int .i64 tx,.bool mh,.int .i64 mm,.int .i64 mx,.slice og ng cg,.slice oe ne ce,.slice ol nl cl,.slice oc nc cc,.slice od nd cd] 33)
 clear hc he h ht1 hbs hI hF
 go_enter Tryz.func11,Tryz.ntmps11
 go_wp2_with fail
 refine (HCC.out _ (Bl.alloc (Bl.refl w) _)).mono ?_
 rintro e w1 ⟨rfl,hb⟩
 have HB1:=hid (Bl.step (Bl.alloc (Bl.refl w) _) hb)
 have HC1:=hid (HC0.out.below (qW5 _) hb)
 clear hb HCC HC0
 cases t1 with
 | false =>
   go_wp2_with fail;go_ret;exact ⟨_,rfl,Own.nil _ _ _ _,HB1.out⟩
 | true =>
   have c0:=HC1.out.cell 0 _ rfl;have c1:=HC1.out.cell 1 _ rfl;have c2:=HC1.out.cell 2 _ rfl;have c3:=HC1.out.cell 3 _ rfl;have c4:=HC1.out.cell 4 _ rfl;have c5:=HC1.out.cell 5 _ rfl;have c6:=HC1.out.cell 6 _ rfl;have c7:=HC1.out.cell 7 _ rfl;have c8:=HC1.out.cell 8 _ rfl;have c9:=HC1.out.cell 9 _ rfl;have c10:=HC1.out.cell 10 _ rfl;have c11:=HC1.out.cell 11 _ rfl;have c12:=HC1.out.cell 12 _ rfl;have c13:=HC1.out.cell 13 _ rfl;go_wp2_with fail;refine (HEE.out w1 HB1.out (by first | trivial | rfl)).mono ?_;rintro e w2 ⟨v,rfl,hv,hb⟩;have HV:=hid (hv.lift HB1.out.size);have HB2:=hid (Bl.step HB1.out hb);clear hb hv HEE HC1 c0 c1 c2 c3 c4 c5 c6 c7 c8 c9 c10 c11 c12 c13;go_wp2_with fail;go_ret;exact ⟨_,rfl,HV.out,HB2.out⟩
end Go.Proofs.YtbkofpljchkkaaaGreat
