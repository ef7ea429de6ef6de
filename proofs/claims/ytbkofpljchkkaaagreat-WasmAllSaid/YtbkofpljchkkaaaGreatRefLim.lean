/- Words: RefLim. -/
import Derived.Test.YtbkofpljchkkaaaGreatRefBy
set_option maxRecDepth 100000
set_option maxHeartbeats 2000000
namespace Go.Proofs.YtbkofpljchkkaaaGreat
open Go.RowKit
theorem qHt (n:Int):(jG n).length <= 10:=qE 9 n
theorem qB5 (h:Bool) (mn mx:Int) (w:World) (h0:0 <= mn) (h1:mn <= 1000000) (h2:-1 <= mx) (h3:mx <= 1000000) :
    Calls Tryz.prog 53 #[.agg #[.bool h,.int .i64 mn,.int .i64 mx]] w fun e w'=>∃ v,e=.returned v /\ Own 5 .u8 w.heap.size w' v (liE ⟨h,mn,mx⟩) /\ Below w.heap.size w w':=by
 have hl1:=qHt mn
 have hl2:=qHt mx
 obtain ⟨us,hus⟩:∃ us,jG mn=us:=⟨_,rfl⟩
 obtain ⟨vs,hvs⟩:∃ vs,jG mx=vs:=⟨_,rfl⟩
 rw [hus] at hl1
 rw [hvs] at hl2
 have HUS:=hid hus
 have HVS:=hid hvs
 clear hus hvs
 have HB0:Hid (Below w.heap.size w (w.alloc (.cells #[.bool h,.int .i64 mn,.int .i64 mx] 26))):=hid (Bl.alloc (Bl.refl w) _)
 have HC0:=hid (Cel.new w [.bool h,.int .i64 mn,.int .i64 mx] 26)
 have hz0:(w.alloc (.cells #[.bool h,.int .i64 mn,.int .i64 mx] 26)).heap.size=w.heap.size + 1:=by simp
 obtain ⟨w0,hw0⟩:∃ w0,w.alloc (.cells #[.bool h,.int .i64 mn,.int .i64 mx] 26)=w0:=⟨_,rfl⟩
 have HC1:Hid (Cel w0 w.heap.size [.bool h,.int .i64 mn,.int .i64 mx]):=hid (by rw [<- hw0];exact HC0.out)
 rw [hw0] at HB0 hz0
 have HW0:=hid hw0
 have HZ0:=hid hz0
 clear hw0 HC0 hz0
 by_cases hm:mx=-1
 ·have e1:liE ⟨h,mn,mx⟩=[0] ++ us:=by simp [liE,hm,HUS.out]
  rw [e1];subst hm;clear e1;go_enter Tryz.func53,Tryz.ntmps53;have c1:=HC1.out.cell 1 _ rfl;have c2:=HC1.out.cell 2 _ rfl;rw [<- HW0.out] at c1 c2;have hob:=jK w0 .u8 5 [0] (by unfold maxLen;simp) (by decide);have HOB:=hid (hob.lift (base':=w.heap.size) (by have:=HZ0.out;omega));clear hob;go_wp2_with fail;rw [HW0.out];refine (xC mn _ h0 (by omega)).mono ?_;rintro e w2 ⟨v,rfl,hv,hb⟩;rw [HUS.out] at hv;obtain ⟨uo,uc,rfl,hru⟩:=hv.rd;have HRU:=hid hru;have hsz:w.heap.size <= w2.heap.size:=by have:=hb.size;have:=HZ0.out;simp at *;omega
  have HO:Hid (Own 5 .u8 w.heap.size w2 (.slice (some ⟨w0.heap.size,0,none⟩) 1 1) [0]):=hid (HOB.out.below hb (qW8 _));have HB:=hid (Bl.step HB0.out (Bl.step (Bl.alloc (Bl.refl w0) _) hb));clear hv hru hb c1 c2;rw [HZ0.out] at HO
  go_wp2_with (at_builtin;refine qA rfl (.tmp 6) (.tmp 9) 37 rfl 5 .u8 w.heap.size 1 Tryz.underlying37 qG _ [0] rfl HO.out uo us.length uc us rfl HRU.out (by simp;omega) (by simp;omega) hsz ?_;intro v' w3 h3 h4 _)
  go_ret;exact ⟨_,rfl,h3,HB.out.trans h4⟩
 ·have e1:liE ⟨h,mn,mx⟩=([1] ++ us) ++ vs:=by simp [liE,hm,HUS.out,HVS.out]
  rw [e1];have hm0:0 <= mx:=by omega
  clear e1 hm h2;go_enter Tryz.func53,Tryz.ntmps53;have c1:=HC1.out.cell 1 _ rfl;have c2:=HC1.out.cell 2 _ rfl;rw [<- HW0.out] at c1 c2;go_wp2_with fail;rw [HW0.out] at c1 c2 ⊢;have hw0s:w0.heap.size=w.heap.size + 1:=HZ0.out;have HOA:=hid (jK w0 .u8 5 [1] (by unfold maxLen;simp) (by decide));clear HC1;have HC2:=hid c2
  go_region_law (first
   | (refine jP rfl (.tmp 11) (.tmp 14) 37 rfl 5 .u8 w0.heap.size 1 Tryz.underlying37 qG _ [1] rfl HOX.out uo us.length uc us rfl HRU.out (by simp;omega) (by simp;omega) hsz2 ?_;intro v3 w3 o3 b3 _;have d2:=((HB2.out.trans b3).cell (p:=⟨w.heap.size,2,none⟩) (show w.heap.size < w0.heap.size by omega)).trans HC2.out;have HB3:=hid (HB2.out.trans b3);have HO3:=hid o3;have hsz3:=HB3.out.size;clear b3 o3 c2x)
   | (refine jP rfl (.tmp 11) (.tmp 14) 37 rfl 5 .u8 w0.heap.size 1 Tryz.underlying37 qG _ [1] rfl HOY.out uo us.length uc us rfl (HRV.out.below (Bl.alloc (Bl.refl w2) _)) (by simp;omega) (by simp;omega) (by simp;omega) ?_;intro v3 w3 o3 b3 _;have d2:=((HB2.out.trans ((Bl.alloc (Bl.refl w2) (.cells #[.int .u8 1] 5)).mono hsz2 |>.trans b3)).cell (p:=⟨w.heap.size,2,none⟩) (show w.heap.size < w0.heap.size by omega)).trans HC2.out;have HB3:=hid (HB2.out.trans (((Bl.alloc (Bl.refl w2) (.cells #[.int .u8 1] 5)).mono hsz2).trans b3));have HO3:=hid o3;have hsz3:=HB3.out.size;clear b3 o3 c2x)
   | (refine jP rfl (.tmp 15) (.tmp 18) 37 rfl 5 .u8 w0.heap.size 1 Tryz.underlying37 qG _ ([1] ++ us) rfl HO4.out xo vs.length xc vs rfl HRX.out (by simp;omega) (by simp;omega) hsz4 ?_;intro v5 w5 o5 b5 _;have HO5:=hid o5;have HB5:=hid (HB4.out.trans b5);clear b5 o5)
   | (go_simp;go_at_call 52;((with_reducible refine (xC mn (w0.alloc (.cells #[.int .u8 1] 5)).drew h0 (by omega)).mono ?_);rintro e w2 ⟨v,rfl,hv,hb⟩;rw [HUS.out] at hv;obtain ⟨uo,uc,rfl,hru⟩:=hv.rd;have HRU:=hid hru;have HB2:Hid (Below w0.heap.size w0 w2):=hid ((Bl.alloc (Bl.refl w0) (.cells #[.int .u8 1] 5)).drew.trans (hb.mono (by simp)));have HOX:Hid (Own 5 .u8 w0.heap.size w2 (.slice (some ⟨w.heap.size + 1,0,none⟩) 1 1) [1]):=hid (by rw [<- hw0s];exact HOA.out.drew.below hb (qW8 _));have hsz2:=HB2.out.size;have hlt2:w.heap.size < w2.heap.size:=qXr (show w.heap.size < w0.heap.size by omega) hsz2;have c2x:=(HB2.out.cell (p:=⟨w.heap.size,2,none⟩) (show w.heap.size < w0.heap.size by omega)).trans HC2.out;clear hv hb hru))
   | (go_simp;go_at_call 52;((with_reducible refine (xC mn w0.drew h0 (by omega)).mono ?_);rintro e w2 ⟨v,rfl,hv,hb⟩;rw [HUS.out] at hv;obtain ⟨uo,uc,rfl,hru⟩:=hv.rd;have HRV:=hid hru;have HB2:Hid (Below w0.heap.size w0 w2):=hid ((qXh _ w0).drew.trans hb);have HOY:Hid (Own 5 .u8 w0.heap.size (w2.alloc (.cells #[.int .u8 1] 5)) (.slice (some ⟨w2.heap.size,0,none⟩) 1 1) [1]):=hid ((jK w2 .u8 5 [1] (by unfold maxLen;simp) (by decide)).lift HB2.out.size);have hsz2:=HB2.out.size;have hlt2:w.heap.size < w2.heap.size:=qXr (show w.heap.size < w0.heap.size by omega) hsz2;have c2x:=(HB2.out.cell (p:=⟨w.heap.size,2,none⟩) (show w.heap.size < w0.heap.size by omega)).trans HC2.out;clear hv hb hru))
   | (go_simp;go_at_call 52;((with_reducible refine (xC mx _ hm0 (by omega)).mono ?_);rintro e w4 ⟨v4,rfl,hv4,hb4⟩;rw [HVS.out] at hv4;obtain ⟨xo,xc,rfl,hrx⟩:=hv4.rd;have HRX:=hid hrx;have HO4:=hid (HO3.out.below hb4 (qW8 _));have HB4:=hid (HB3.out.trans (hb4.mono hsz3));have hsz4:=HB4.out.size;clear hv4 hb4 hrx)))
  all_goals
   go_wp2_with fail
   go_ret
   exact ⟨_,rfl,HO5.out.lift (by omega),HB0.out.trans (HB5.out.mono (by omega))⟩
end Go.Proofs.YtbkofpljchkkaaaGreat
