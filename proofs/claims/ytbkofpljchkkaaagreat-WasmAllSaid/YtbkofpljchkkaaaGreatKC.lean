/- Words: KC. -/
import Derived.Outline
import Derived.Handy
import Derived.Deep.Cut
import Derived.Lib.AppendZerosOnto
import Derived.Lib.SliceRun
import Derived.Test.YtbkofpljchkkaaaGreatProg
import Derived.Test.YtbkofpljchkkaaaGreatKA
import Derived.Test.YtbkofpljchkkaaaGreatKB
set_option maxHeartbeats 1000000
namespace Go.Proofs.YtbkofpljchkkaaaGreat
open Go.RowKit
def cls (op:Int):Int × Int :=
 if (69 <= op /\ op <= 79) ∨ (103 <= op /\ op <= 120) then (1,op)
 else if 80 <= op /\ op <= 90 then (2,op - 11)
 else if 121 <= op /\ op <= 138 then (2,op - 18)
 else if op=167 then (2,op)
 else if op=172 ∨ op=173 then (1,op) else (0,0)
theorem qU6 {op c b:Int} (h:cls op=(c,b)) (x y:Int) (g:cls op=(x,y)):Value.tuple #[.int .i64 x,.int .i64 y]=Value.tuple #[.int .i64 c,.int .i64 b]:=by
 rw [g] at h
 cases h
 rfl
theorem qS2 {op c b:Int} (h:cls op=(c,b)) (x y:Int) (g:cls op=(x,y)):Value.tuple #[.int .i64 y,.int .i64 x]=Value.tuple #[.int .i64 b,.int .i64 c]:=by
 rw [g] at h
 cases h
 rfl
theorem vG (op c b:Int) (h:cls op=(c,b)) (w:World):Calls Tryz.prog 224 #[.int .i64 op] w fun e w'=>e=.returned (.tuple #[.int .i64 c,.int .i64 b]) /\ w=w':=by
 have H:=hid h;clear h;go_enter Tryz.func224,Tryz.ntmps224;go_wp2
 all_goals (try simp only [beq_iff_eq,beq_eq_false_iff_ne,ne_eq] at *)
 all_goals (go_ret2;exact ⟨congrArg _ (qU6 H.out _ _ (by unfold cls;repeat (first | rw [if_pos (by omega)] | rw [if_neg (by omega)] | (congr 1;omega)))),rfl⟩)
theorem qPy (op c b:Int) (h:cls op=(c,b)) (w:World):Calls Tryz.prog 195 #[.int .i64 op] w fun e w'=>e=.returned (.tuple #[.int .i64 b,.int .i64 c]) /\ w=w':=by
 have H:=hid h;clear h;go_enter Tryz.func195,Tryz.ntmps195;go_wp2
 all_goals (try simp only [beq_iff_eq,beq_eq_false_iff_ne,ne_eq] at *)
 all_goals (go_ret2;exact ⟨congrArg _ (qS2 H.out _ _ (by unfold cls;repeat (first | rw [if_pos (by omega)] | rw [if_neg (by omega)] | (congr 1;omega)))),rfl⟩)
theorem jY (b:Int) (w:World):Calls Tryz.prog 225 #[.int .i64 b] w fun e w'=>e=.returned (.bool (decide (70 <= b) && decide (b <= 79))) /\ w=w':=by
 cases h:decide (70 <= b)
 all_goals
  go_enter Tryz.func225,Tryz.ntmps225
  go_wp2
  go_ret
  exact ⟨by simp,rfl⟩
theorem zO (b:Int) (w:World):Calls Tryz.prog 226 #[.int .i64 b] w fun e w'=>e=.returned (.bool (decide (106 <= b) && decide (b <= 120))) /\ w=w':=by
 cases h:decide (106 <= b)
 all_goals
  go_enter Tryz.func226,Tryz.ntmps226
  go_wp2
  go_ret
  exact ⟨by simp,rfl⟩
theorem qC2 {op c b:Int} (h:cls op=(c,b)):(c=0 /\ b=0) ∨ ((c=1 ∨ c=2) /\ ((69 <= b /\ b <= 79) ∨ (103 <= b /\ b <= 120))) ∨ (c=2 /\ b=167) ∨ (c=1 /\ (b=172 ∨ b=173)):=by
 unfold cls at h;split at h
 ·cases h;omega
 ·split at h
  ·cases h;omega
  ·split at h
   ·cases h;omega
   ·split at h
    ·cases h;omega
    ·split at h
     ·cases h;omega
     ·cases h;omega
def xO (b c:Int):Nat × Int × Bool :=
 if b=69 then (1,1,true) else if 70 <= b /\ b <= 79 then (2,1,true) else if 103 <= b /\ b <= 105 then (1,c,true) else if 106 <= b /\ b <= 120 then (2,c,true)
 else if b=167 then (1,1,true) else if b=172 ∨ b=173 then (1,2,true) else (0,0,false)
def yK (w w':World) (e:Ending) (n:Nat) (c r:Int) (t:Bool):Prop :=
 ∃ ao cap,e=.returned (.tuple #[.slice ao n cap,.int .i64 r,.bool t]) /\ Rd .i64 w' ao n cap (List.replicate n c) /\ Below w.heap.size w w'
theorem qM5 (op c b:Int) (hcls:cls op=(c,b)) (hc:(Lit.int .i64 c).wf=true) (hb:b=69) (w:World) :
    Calls Tryz.prog 213 #[.int .i64 op] w fun e w'=>yK w w' e 1 c 1 true:=by
 subst hb
 have Hcls:=hid hcls
 have Hc:=hid hc
 clear hcls hc
 go_enter Tryz.func213,Tryz.ntmps213
 go_wp2_with fail
 refine (vG _ _ _ Hcls.out _).mono ?_
 rintro e w' ⟨rfl,rfl⟩
 go_wp2_with fail
 go_ret3
 exact ⟨_,_,rfl,Rd.built _ _ _ _ Hc.out,Bl.alloc (Bl.refl _) _⟩
theorem qM6 (op c b:Int) (hcls:cls op=(c,b)) (hc:(Lit.int .i64 c).wf=true) (hb:70 <= b /\ b <= 79) (w:World) :
    Calls Tryz.prog 213 #[.int .i64 op] w fun e w'=>yK w w' e 2 c 1 true:=by
 have e69:(b == 69)=false:=by simp;omega
 have ec:(decide (70 <= b) && decide (b <= 79))=true:=by simp;omega
 clear hb
 have Hcls:=hid hcls
 have Hc:=hid hc
 clear hcls hc
 go_enter Tryz.func213,Tryz.ntmps213
 go_wp2_with fail
 refine (vG _ _ _ Hcls.out _).mono ?_
 rintro e w' ⟨rfl,rfl⟩
 go_wp2_with fail
 refine (jY _ _).mono ?_
 rintro e w' ⟨rfl,rfl⟩
 rw [ec]
 go_wp2_with fail
 go_ret3
 exact ⟨_,_,rfl,Rd.built2 _ _ _ _ _ Hc.out Hc.out,Bl.alloc (Bl.refl _) _⟩
theorem qM7 (op c b:Int) (hcls:cls op=(c,b)) (hc:(Lit.int .i64 c).wf=true) (hb:103 <= b /\ b <= 105) (w:World) :
    Calls Tryz.prog 213 #[.int .i64 op] w fun e w'=>yK w w' e 1 c c true:=by
 have e69:(b == 69)=false:=by simp;omega
 have ec:(decide (70 <= b) && decide (b <= 79))=false:=by simp;omega
 have e103:decide (103 <= b)=true:=by simp;omega
 have e105:decide (b <= 105)=true:=by simp;omega
 clear hb
 have Hcls:=hid hcls
 have Hc:=hid hc
 clear hcls hc
 go_enter Tryz.func213,Tryz.ntmps213
 go_wp2_with fail
 refine (vG _ _ _ Hcls.out _).mono ?_
 rintro e w' ⟨rfl,rfl⟩
 go_wp2_with fail
 refine (jY _ _).mono ?_
 rintro e w' ⟨rfl,rfl⟩
 rw [ec]
 go_wp2_with fail
 go_ret3
 exact ⟨_,_,rfl,Rd.built _ _ _ _ Hc.out,Bl.alloc (Bl.refl _) _⟩
theorem qM8 (op c b:Int) (hcls:cls op=(c,b)) (hc:(Lit.int .i64 c).wf=true) (hb:106 <= b /\ b <= 120) (w:World) :
    Calls Tryz.prog 213 #[.int .i64 op] w fun e w'=>yK w w' e 2 c c true:=by
 have e69:(b == 69)=false:=by simp;omega
 have ec:(decide (70 <= b) && decide (b <= 79))=false:=by simp;omega
 have e103:decide (103 <= b)=true:=by simp;omega
 have e105:decide (b <= 105)=false:=by simp;omega
 have ea:(decide (106 <= b) && decide (b <= 120))=true:=by simp;omega
 clear hb
 have Hcls:=hid hcls
 have Hc:=hid hc
 clear hcls hc
 go_enter Tryz.func213,Tryz.ntmps213
 go_wp2_with fail
 refine (vG _ _ _ Hcls.out _).mono ?_
 rintro e w' ⟨rfl,rfl⟩
 go_wp2_with fail
 refine (jY _ _).mono ?_
 rintro e w' ⟨rfl,rfl⟩
 rw [ec]
 go_wp2_with fail
 refine (zO _ _).mono ?_
 rintro e w' ⟨rfl,rfl⟩
 rw [ea]
 go_wp2_with fail
 go_ret3
 exact ⟨_,_,rfl,Rd.built2 _ _ _ _ _ Hc.out Hc.out,Bl.alloc (Bl.refl _) _⟩
theorem qKq (op c b:Int) (hcls:cls op=(c,b)) (hc:(Lit.int .i64 c).wf=true) (hb:b=167) (w:World) :
    Calls Tryz.prog 213 #[.int .i64 op] w fun e w'=>yK w w' e 1 c 1 true:=by
 have ec:(decide (70 <= b) && decide (b <= 79))=false:=by simp;omega
 have ea:(decide (106 <= b) && decide (b <= 120))=false:=by simp;omega
 subst hb
 have Hcls:=hid hcls
 have Hc:=hid hc
 clear hcls hc
 go_enter Tryz.func213,Tryz.ntmps213
 go_wp2_with fail
 refine (vG _ _ _ Hcls.out _).mono ?_
 rintro e w' ⟨rfl,rfl⟩
 go_wp2_with fail
 refine (jY _ _).mono ?_
 rintro e w' ⟨rfl,rfl⟩
 rw [ec]
 go_wp2_with fail
 refine (zO _ _).mono ?_
 rintro e w' ⟨rfl,rfl⟩
 rw [ea]
 go_wp2_with fail
 go_ret3
 exact ⟨_,_,rfl,Rd.built _ _ _ _ Hc.out,Bl.alloc (Bl.refl _) _⟩
theorem qM9 (op c b:Int) (hcls:cls op=(c,b)) (hc:(Lit.int .i64 c).wf=true) (hb:b=172 ∨ b=173) (w:World) :
    Calls Tryz.prog 213 #[.int .i64 op] w fun e w'=>yK w w' e 1 c 2 true:=by
 have ec:(decide (70 <= b) && decide (b <= 79))=false:=by simp;omega
 have ea:(decide (106 <= b) && decide (b <= 120))=false:=by simp;omega
 rcases hb with rfl | rfl
 all_goals
  have Hcls:=hid hcls
  have Hc:=hid hc
  clear hcls hc
  go_enter Tryz.func213,Tryz.ntmps213
  go_wp2_with fail
  refine (vG _ _ _ Hcls.out _).mono ?_
  rintro e w' ⟨rfl,rfl⟩
  go_wp2_with fail
  refine (jY _ _).mono ?_
  rintro e w' ⟨rfl,rfl⟩
  rw [ec]
  go_wp2_with fail
  refine (zO _ _).mono ?_
  rintro e w' ⟨rfl,rfl⟩
  rw [ea]
  go_wp2_with fail
  go_ret3
  exact ⟨_,_,rfl,Rd.built _ _ _ _ Hc.out,Bl.alloc (Bl.refl _) _⟩
theorem qKr (op c b:Int) (hcls:cls op=(c,b)) (hc:(Lit.int .i64 c).wf=true) (hb:b=0) (w:World) :
    Calls Tryz.prog 213 #[.int .i64 op] w fun e w'=>yK w w' e 0 0 0 false:=by
 have ec:(decide (70 <= b) && decide (b <= 79))=false:=by simp;omega
 have ea:(decide (106 <= b) && decide (b <= 120))=false:=by simp;omega
 subst hb
 have Hcls:=hid hcls
 have Hc:=hid hc
 clear hcls hc
 go_enter Tryz.func213,Tryz.ntmps213
 go_wp2_with fail
 refine (vG _ _ _ Hcls.out _).mono ?_
 rintro e w' ⟨rfl,rfl⟩
 go_wp2_with fail
 refine (jY _ _).mono ?_
 rintro e w' ⟨rfl,rfl⟩
 rw [ec]
 go_wp2_with fail
 refine (zO _ _).mono ?_
 rintro e w' ⟨rfl,rfl⟩
 rw [ea]
 go_wp2_with fail
 go_ret3
 exact ⟨_,_,rfl,Rd.empty _ _,Bl.refl _⟩
theorem qPz (op c b:Int) (n:Nat) (r:Int) (t:Bool) (hcls:cls op=(c,b)) (h:xO b c=(n,r,t)) (w:World) :
    Calls Tryz.prog 213 #[.int .i64 op] w fun e w'=>yK w w' e n (if n=0 then 0 else c) r t:=by
 have hc:(Lit.int .i64 c).wf=true:=by
  have:=qC2 hcls;have:c=0 ∨ c=1 ∨ c=2:=by omega
  rcases this with rfl | rfl | rfl <;> decide
 have g:=qC2 hcls
 unfold xO at h
 by_cases b1:b=69
 ·rw [if_pos b1] at h;cases h;exact qM5 op c b hcls hc b1 w
 rw [if_neg b1] at h
 by_cases b2:70 <= b /\ b <= 79
 ·rw [if_pos b2] at h;cases h;exact qM6 op c b hcls hc b2 w
 rw [if_neg b2] at h
 by_cases b3:103 <= b /\ b <= 105
 ·rw [if_pos b3] at h;cases h;exact qM7 op _ b hcls hc b3 w
 rw [if_neg b3] at h
 by_cases b4:106 <= b /\ b <= 120
 ·rw [if_pos b4] at h;cases h;exact qM8 op _ b hcls hc b4 w
 rw [if_neg b4] at h
 by_cases b5:b=167
 ·rw [if_pos b5] at h;cases h;exact qKq op c b hcls hc b5 w
 rw [if_neg b5] at h
 by_cases b6:b=172 ∨ b=173
 ·rw [if_pos b6] at h;cases h;exact qM9 op c b hcls hc b6 w
 rw [if_neg b6] at h
 cases h
 exact qKr op c b hcls hc (by omega) w
theorem xA {b c:Int} {n:Nat} {k r:Int} {t:Bool} (h:xO b c=(n,r,t)) (hk:(if n=0 then 0 else c)=k) (nn:Nat) (n' k' r':Int) (t':Bool) (e1:(nn:Int)=n') (e2:(if nn=0 then 0 else c)=k') (g:xO b c=(nn,r',t')) :
    Value.tuple #[.int .i64 n',.int .i64 k',.int .i64 r',.bool t']=Value.tuple #[.int .i64 n,.int .i64 k,.int .i64 r,.bool t]:=by
 rw [g] at h
 cases h
 rw [<- e1,<- e2,<- hk]
theorem qHy (op c b:Int) (n:Nat) (k r:Int) (t:Bool) (hcls:cls op=(c,b)) (h:xO b c=(n,r,t)) (hk:(if n=0 then 0 else c)=k) (w:World) :
    Calls Tryz.prog 178 #[.int .i64 op] w fun e w'=>e=.returned (.tuple #[.int .i64 n,.int .i64 k,.int .i64 r,.bool t]) /\ w=w':=by
 have Hg:=hid (qC2 hcls)
 have H:=hid h
 have Hcls:=hid hcls
 have Hk:=hid hk
 clear hcls h hk
 go_enter Tryz.func178,Tryz.ntmps178
 go_wp2_with fail
 refine (qPy _ _ _ Hcls.out _).mono ?_
 rintro e w' ⟨rfl,rfl⟩
 go_wp2_with fail
 all_goals (try simp only [beq_iff_eq,beq_eq_false_iff_ne,ne_eq] at *)
 all_goals (have g:=Hg.out)
 ·refine bodyPost_ret (by simp [results,Tryz.results178,go_sem]) rfl ⟨congrArg Ending.returned (xA H.out Hk.out 0 0 0 0 false rfl rfl ?_),rfl⟩
  unfold xO
  repeat (first | rw [if_pos (by omega)] | rw [if_neg (by omega)])
 ·refine bodyPost_ret (by simp [results,Tryz.results178,go_sem]) rfl ⟨congrArg Ending.returned (xA H.out Hk.out 1 1 c 1 true rfl rfl ?_),rfl⟩
  unfold xO
  repeat (first | rw [if_pos (by omega)] | rw [if_neg (by omega)])
 ·refine bodyPost_ret (by simp [results,Tryz.results178,go_sem]) rfl ⟨congrArg Ending.returned (xA H.out Hk.out 2 2 c 1 true rfl rfl ?_),rfl⟩
  unfold xO
  repeat (first | rw [if_pos (by omega)] | rw [if_neg (by omega)])
 ·refine bodyPost_ret (by simp [results,Tryz.results178,go_sem]) rfl ⟨congrArg Ending.returned (xA H.out Hk.out 1 1 c c true rfl rfl ?_),rfl⟩
  unfold xO
  repeat (first | rw [if_pos (by omega)] | rw [if_neg (by omega)])
 ·refine bodyPost_ret (by simp [results,Tryz.results178,go_sem]) rfl ⟨congrArg Ending.returned (xA H.out Hk.out 2 2 c c true rfl rfl ?_),rfl⟩
  unfold xO
  repeat (first | rw [if_pos (by omega)] | rw [if_neg (by omega)])
 ·refine bodyPost_ret (by simp [results,Tryz.results178,go_sem]) rfl ⟨congrArg Ending.returned (xA H.out Hk.out 1 1 c 1 true rfl rfl ?_),rfl⟩
  unfold xO
  repeat (first | rw [if_pos (by omega)] | rw [if_neg (by omega)])
 ·refine bodyPost_ret (by simp [results,Tryz.results178,go_sem]) rfl ⟨congrArg Ending.returned (xA H.out Hk.out 1 1 c 2 true rfl rfl ?_),rfl⟩
  unfold xO
  repeat (first | rw [if_pos (by omega)] | rw [if_neg (by omega)])
open Go.RowKit
def qHs (op:Int):Bool:=decide (69 <= op /\ op <= 90) || decide (103 <= op /\ op <= 138) || op == 167 || op == 172 || op == 173
def sh (op:Int):Int :=
 if op=0 ∨ op=1 ∨ op=5 ∨ op=11 ∨ op=15 ∨ op=26 ∨ op=27 then 1
 else if op=2 ∨ op=3 ∨ op=4 then 2
 else if op=12 ∨ op=13 ∨ op=16 ∨ op=32 ∨ op=33 ∨ op=34 ∨ op=35 ∨ op=36 then 3
 else if op=14 then 4
 else if op=17 then 5
 else if op=40 ∨ op=41 ∨ op=44 ∨ op=45 ∨ op=54 ∨ op=55 ∨ op=58 then 6
 else if op=63 ∨ op=64 then 7
 else if op=65 then 8
 else if op=66 then 9
 else if qHs op=true then 1 else 0
theorem yB (op:Int):0 <= sh op /\ sh op <= 9:=by unfold sh;(repeat' split) <;> omega
theorem vH {op:Int} (h:sh op ≠ 0):0 <= op /\ op <= 255:=by
 by_cases h0:0 <= op /\ op <= 255
 ·exact h0
 ·exfalso
  apply h;unfold sh;have hn:¬ qHs op=true:=by simp [qHs];omega
  repeat rw [if_neg (by omega)]
  try rw [if_neg hn]
def q9 (s a:Int):Bool :=
 if s=1 ∨ s=7 then a == 0
 else if s=2 then a == 0 || (a == 1 || a == 2)
 else if s=3 ∨ s=4 ∨ s=5 then decide (0 <= a) && decide (a <= 1000)
 else if s=6 then decide (0 <= a) && decide (a <= 3)
 else if s=8 then decide (-2147483648 <= a) && decide (a <= 2147483647)
 else s == 9
def zU (s b:Int):Bool:=if s=6 then decide (0 <= b) && decide (b <= 4294967295) else b == 0
def idx (n:Int):Bool:=decide (0 <= n) && decide (n <= 1000)
def zY (s:Int) (l:List Int):Bool:=if s=4 then decide (l.length <= 50) && l.all idx else l.length == 0
def uN (op a b:Int) (l:List Int):Bool:=q9 (sh op) a && (zU (sh op) b && zY (sh op) l)
def vQ:List Int -> List Int
 | []=>[]
 | x :: r=>qZ 9 x ++ vQ r
def qOq (a:Int):Int:=if a=1 then 127 else if a=2 then 126 else 64
def zD (s a b:Int) (l:List Int):List Int :=
 if s=2 then [qOq a] else if s=3 then qZ 9 a else if s=4 then qZ 9 l.length ++ (vQ l ++ qZ 9 a) else if s=5 then qZ 9 a ++ [0]
 else if s=6 then qZ 9 a ++ qZ 9 b else if s=7 then [0] else if s=8 ∨ s=9 then yH 9 a else []
def uW (op a b:Int) (l:List Int):List Int:=op :: zD (sh op) a b l
noncomputable def decU (bits:Int) (xs:List Int):Int × Nat × Int:=by
 classical exact if h:∃ k,Stop xs ((bits + 6) / 7).toNat k then (if qDv xs bits h.choose then (val (xs.take (h.choose + 1)),h.choose + 1,0) else (0,0,1))
  else if ((bits + 6) / 7).toNat <= xs.length then (0,0,1) else (0,0,2)
noncomputable def decS (bits:Int) (xs:List Int):Int × Nat × Int:=by
 classical exact if h:∃ k,Stop xs ((bits + 6) / 7).toNat k then (if qB1 xs bits h.choose then (qAs (xs.take (h.choose + 1)),h.choose + 1,0) else (0,0,1))
  else if ((bits + 6) / 7).toNat <= xs.length then (0,0,1) else (0,0,2)
structure RS where
 at':Nat
 err:Int
noncomputable def rU (xs:List Int) (s:RS):Int × RS :=
 if s.err=0 then ((decU 32 (xs.drop s.at')).1,⟨s.at' + (decU 32 (xs.drop s.at')).2.1,(decU 32 (xs.drop s.at')).2.2⟩) else (0,s)
noncomputable def rS (bits:Int) (xs:List Int) (s:RS):Int × RS :=
 if s.err=0 then ((decS bits (xs.drop s.at')).1,⟨s.at' + (decS bits (xs.drop s.at')).2.1,(decS bits (xs.drop s.at')).2.2⟩) else (0,s)
def vO (xs:List Int) (s:RS):Int × RS :=
 if s.err=0 then (if s.at'=xs.length then (0,⟨s.at',2⟩) else (xs.getD s.at' 0,⟨s.at' + 1,0⟩)) else (0,s)
def qD4 (t:Bool) (s:RS):RS:=if t=false /\ s.err=0 then ⟨s.at',1⟩ else s
noncomputable def rA (f:Int) (xs:List Int) (s:RS):Int × RS:=((rU xs s).1,qD4 (q9 f (rU xs s).1) (rU xs s).2)
noncomputable def rLs (xs:List Int):Nat -> RS -> List Int × RS
 | 0,s=>([],s)
 | m + 1,s=>if s.err=0 then ((rA 3 xs s).1 :: (rLs xs m (rA 3 xs s).2).1,(rLs xs m (rA 3 xs s).2).2) else ([],s)
noncomputable def rCount (xs:List Int) (s:RS):Int × RS:=((rU xs s).1,qD4 (decide ((rU xs s).1 <= 50)) (rU xs s).2)
noncomputable def rL (xs:List Int) (s:RS):List Int × RS:=rLs xs (rCount xs s).1.toNat (rCount xs s).2
def qU7 (x:Int):Int:=if x=127 then 1 else if x=126 then 2 else 0
def qS3 (xs:List Int) (s:RS):Int × RS :=
 (qU7 (vO xs s).1,qD4 ((vO xs s).1 == 64 || ((vO xs s).1 == 127 || (vO xs s).1 == 126)) (vO xs s).2)
def qKs (xs:List Int) (s:RS):RS:=qD4 ((vO xs s).1 == 0) (vO xs s).2
structure Ins where
 op:Int
 a:Int
 b:Int
 l:List Int
noncomputable def rTail (xs:List Int) (op:Int) (s:RS):Ins × RS :=
 if sh op=0 then (⟨op,0,0,[]⟩,qD4 false s)
 else if sh op=2 then (⟨op,(qS3 xs s).1,0,[]⟩,(qS3 xs s).2)
 else if sh op=3 then (⟨op,(rA 3 xs s).1,0,[]⟩,(rA 3 xs s).2)
 else if sh op=4 then (⟨op,(rA 4 xs (rL xs s).2).1,0,(rL xs s).1⟩,(rA 4 xs (rL xs s).2).2)
 else if sh op=5 then (⟨op,(rA 5 xs s).1,0,[]⟩,qKs xs (rA 5 xs s).2)
 else if sh op=6 then (⟨op,(rA 6 xs s).1,(rU xs (rA 6 xs s).2).1,[]⟩,(rU xs (rA 6 xs s).2).2)
 else if sh op=7 then (⟨op,0,0,[]⟩,qKs xs s)
 else if sh op=8 then (⟨op,(rS 32 xs s).1,0,[]⟩,(rS 32 xs s).2)
 else if sh op=9 then (⟨op,(rS 64 xs s).1,0,[]⟩,(rS 64 xs s).2)
 else (⟨op,0,0,[]⟩,s)
noncomputable def rIns (xs:List Int):Ins × RS:=rTail xs (vO xs ⟨0,0⟩).1 (vO xs ⟨0,0⟩).2
noncomputable def getI (xs:List Int):Ins × Nat × Int :=
 if (rIns xs).2.err=0 then ((rIns xs).1,(rIns xs).2.at',0) else (⟨0,0,0,[]⟩,0,(rIns xs).2.err)
open Go.RowKit
abbrev iv (op a b:Int) (ao:Option Addr) (n cap:Nat):Value:=.agg #[.int .i64 op,.int .i64 a,.int .i64 b,.slice ao n cap]
theorem qNa {op c b:Int} {n:Nat} {r:Int} {t:Bool} (h:cls op=(c,b)) (g:xO b c=(n,r,t)):t=qHs op:=by
 unfold cls at h;unfold xO at g;by_cases h1:(69 <= op /\ op <= 79) ∨ (103 <= op /\ op <= 120)
 ·rw [if_pos h1] at h;cases h
  have hn:qHs op=true:=by simp [qHs];omega
  rw [hn]
  (repeat' split at g) <;> (cases g;first | rfl | (exfalso;omega))
 rw [if_neg h1] at h;by_cases h2:80 <= op /\ op <= 90
 ·rw [if_pos h2] at h;cases h
  have hn:qHs op=true:=by simp [qHs];omega
  rw [hn]
  (repeat' split at g) <;> (cases g;first | rfl | (exfalso;omega))
 rw [if_neg h2] at h;by_cases h3:121 <= op /\ op <= 138
 ·rw [if_pos h3] at h;cases h
  have hn:qHs op=true:=by simp [qHs];omega
  rw [hn]
  (repeat' split at g) <;> (cases g;first | rfl | (exfalso;omega))
 rw [if_neg h3] at h;by_cases h4:op=167
 ·rw [if_pos h4] at h;cases h
  have hn:qHs op=true:=by simp [qHs];omega
  rw [hn]
  (repeat' split at g) <;> (cases g;first | rfl | (exfalso;omega))
 rw [if_neg h4] at h;by_cases h5:op=172 ∨ op=173
 ·rw [if_pos h5] at h;cases h
  have hn:qHs op=true:=by simp [qHs];omega
  rw [hn]
  (repeat' split at g) <;> (cases g;first | rfl | (exfalso;omega))
 rw [if_neg h5] at h
 cases h
 have hn:qHs op=false:=by rw [Bool.eq_false_iff];intro hh;simp [qHs] at hh;omega
 rw [hn]
 (repeat' split at g) <;> (cases g;first | rfl | (exfalso;omega))
theorem qHz {op s:Int} (h:sh op=s) (x:Int) (g:sh op=x):Ending.returned (.int .i64 x)=.returned (.int .i64 s):=by rw [<- h,g]
theorem jS (op s:Int) (h:sh op=s) (w:World):Calls Tryz.prog 198 #[.int .i64 op] w fun e w'=>e=.returned (.int .i64 s) /\ Below w.heap.size w w':=by
 have H:=hid h;clear h
 obtain ⟨c,b,hc⟩:∃ c b,cls op=(c,b):=⟨_,_,rfl⟩
 obtain ⟨n,r,t,hk⟩:∃ n r t,xO b c=(n,r,t):=⟨_,_,_,rfl⟩
 have Hn:=hid (qNa hc hk);have Hc:=hid hc;have Hk:=hid hk;clear hc hk
 cases t
 all_goals
  go_enter Tryz.func198,Tryz.ntmps198
  go_wp2_with (go_at_call 213;refine (qPz _ _ _ _ _ _ Hc.out Hk.out _).mono ?_;rintro e w' ⟨ao,cap,rfl,_,hb⟩)
  all_goals (try simp only [beq_iff_eq,beq_eq_false_iff_ne,ne_eq] at *)
  all_goals
   have hn:=Hn.out
   go_ret
   first
    | exact ⟨qHz H.out _ (by unfold sh;first | rw [if_pos (by omega)] | (repeat (first | rw [if_pos (by omega)] | rw [if_neg (by omega)])) | skip),Bl.refl _⟩
    | exact ⟨qHz H.out _ (by unfold sh;(repeat rw [if_neg (by omega)]);first | rw [if_pos hn.symm] | rw [if_neg (by rw [<- hn];decide)] | done),hb⟩
theorem zK (op s:Int) (h:sh op=s) (w:World):Calls Tryz.prog 129 #[.int .i64 op] w fun e w'=>e=.returned (.int .i64 s) /\ w=w':=by
 have H:=hid h;clear h
 obtain ⟨c,b,hc⟩:∃ c b,cls op=(c,b):=⟨_,_,rfl⟩
 obtain ⟨n,r,t,hk⟩:∃ n r t,xO b c=(n,r,t):=⟨_,_,_,rfl⟩
 have Hn:=hid (qNa hc hk);have Hc:=hid hc;have Hk:=hid hk;clear hc hk
 cases t
 all_goals
  go_enter Tryz.func129,Tryz.ntmps129
  go_wp2_with (go_at_call 178;refine (qHy _ _ _ _ _ _ _ Hc.out Hk.out rfl _).mono ?_;rintro e w' ⟨rfl,rfl⟩)
  all_goals (try simp only [beq_iff_eq,beq_eq_false_iff_ne,ne_eq] at *)
  all_goals
   have hn:=Hn.out
   go_ret
   exact ⟨qHz H.out _ (by unfold sh;(repeat (first | rw [if_pos (by omega)] | rw [if_neg (by omega)]));try (first | rw [if_pos hn.symm] | rw [if_neg (by rw [<- hn];decide)])),rfl⟩
theorem qR {x y t:Bool} (h:x=t) (g:y=x):Ending.returned (.bool y)=.returned (.bool t):=by rw [<- h,g]
theorem qE3 (s a:Int) (t:Bool) (hs:0 <= s /\ s <= 9) (h:q9 s a=t) (w:World):Calls Tryz.prog 199 #[.int .i64 s,.int .i64 a] w fun e w'=>e=.returned (.bool t) /\ w=w':=by
 have H:=hid h;clear h;have e:s=0 ∨ s=1 ∨ s=2 ∨ s=3 ∨ s=4 ∨ s=5 ∨ s=6 ∨ s=7 ∨ s=8 ∨ s=9:=by omega
 clear hs;rcases e with rfl | rfl | rfl | rfl | rfl | rfl | rfl | rfl | rfl | rfl
 case inr.inr.inl =>
  cases h0:(a == 0) <;> cases h1:(a == 1)
  all_goals
   go_enter Tryz.func199,Tryz.ntmps199
   go_wp2
   go_ret
   exact ⟨qR H.out (by first | (simp_all [q9];done) | (rw [Bool.eq_iff_iff];simp_all [q9];done) | (simp_all [q9];omega)),rfl⟩
 case inr.inr.inr.inr.inr.inr.inr.inr.inl =>
  cases h0:decide (-2147483648 <= a)
  all_goals
   go_enter Tryz.func199,Tryz.ntmps199
   go_wp2
   go_ret
   exact ⟨qR H.out (by first | (simp_all [q9];done) | (rw [Bool.eq_iff_iff];simp_all [q9];done) | (simp_all [q9];omega)),rfl⟩
 all_goals
  cases h0:decide (0 <= a)
  all_goals
   go_enter Tryz.func199,Tryz.ntmps199
   go_wp2
   go_ret
   exact ⟨qR H.out (by first | (simp_all [q9];done) | (rw [Bool.eq_iff_iff];simp_all [q9];done) | (simp_all [q9];omega)),rfl⟩
theorem qS4 (s b:Int) (t:Bool) (hs:0 <= s /\ s <= 9) (h:zU s b=t) (w:World):Calls Tryz.prog 200 #[.int .i64 s,.int .i64 b] w fun e w'=>e=.returned (.bool t) /\ w=w':=by
 have H:=hid h;clear h;by_cases e:s=6
 ·subst e
  cases h0:decide (0 <= b)
  all_goals
   go_enter Tryz.func200,Tryz.ntmps200
   go_wp2
   go_ret
   exact ⟨qR H.out (by first | (simp_all [zU];done) | (simp_all [zU];omega)),rfl⟩
 ·have e':(s == 6)=false:=by simpa using e
  go_enter Tryz.func200,Tryz.ntmps200;go_wp2;go_ret;exact ⟨qR H.out (by unfold zU;rw [if_neg e]),rfl⟩
theorem qGi {l:List Int} {n:Nat} (hl:l.length=n) (s:Int) (e:s ≠ 4):zY s l=((n:Int) == 0):=by
 unfold zY;rw [if_neg e,hl];rw [Bool.eq_iff_iff,beq_iff_eq,beq_iff_eq];omega
theorem qRn {l:List Int} {k:Nat} (hk:k < l.length):idx l[k]=q9 3 (l.getD k 0):=by simp [List.getD,hk,q9,idx]
theorem qAl {l:List Int} {k:Nat} (hk:k < l.length) (h:q9 3 (l.getD k 0)=false):l.all idx=false:=by
 rw [List.all_eq_false];exact ⟨l[k],List.getElem_mem hk,by rw [qRn hk,h];decide⟩
theorem qD5 {l:List Int} (h:∀ i,i < l.length -> q9 3 (l.getD i 0)=true):l.all idx=true:=by
 rw [qXb];intro x hx;obtain ⟨i,hi,rfl⟩:=List.mem_iff_getElem.1 hx;rw [qRn hi];exact h i hi
theorem qKt (s:Int) (ao:Option Addr) (n cap:Nat) (l:List Int) (t:Bool) (h:zY s l=t) (w:World) (hr:Rd .i64 w ao n cap l) :
    Calls Tryz.prog 201 #[.int .i64 s,.slice ao n cap] w fun e w'=>e=.returned (.bool t) /\ w=w':=by
 have hn63:n <= 9223372036854775807:=by have h1:=hr.le;have h2:=hr.max;unfold maxLen at h2;omega
 have hx:=hr.len
 have Hx:=hid hx
 have H:=hid h
 clear h hx
 by_cases e:s=4
 ·subst e
  by_cases hn:n <= 50
  ·have hn':¬ 50 < n:=by omega
   go_enter Tryz.func201,Tryz.ntmps201;go_wp2;go_loop [6,17] (fun x i=>∃ k:Nat,k <= n /\ i=.int .i64 k /\ Hid (∀ i,i < k -> q9 3 (l.getD i 0)=true)) (fun _ i=>n - (intOf i).toNat)
   case atStart=>exact ⟨0,qXf _,rfl,fun i hi=>by omega⟩
   case round =>
    obtain ⟨k,hkn,rfl,Hall⟩:=hrel;by_cases hk:k < n
    ·obtain ⟨b,off,rfl,hc⟩:=hr.at (by omega)
     have hck:=hc k hk
     obtain ⟨x,hxk⟩:∃ x,x=l.getD k 0:=⟨_,rfl⟩
     rw [<- hxk] at hck;have Hxk:=hid hxk;clear hc hxk
     obtain ⟨t1,ht⟩:∃ t1,q9 3 x=t1:=⟨_,rfl⟩
     have Ht:=hid ht;clear ht
     cases t1
     ·go_wp2_with (go_at_call 199;refine (qE3 _ _ _ (by omega) Ht.out _).mono ?_;rintro e w' ⟨rfl,rfl⟩)
      go_ret;refine ⟨qR H.out ?_,rfl⟩;have hb:=qAl (l:=l) (k:=k) (by rw [Hx.out];exact hk) (by rw [<- Hxk.out];exact Ht.out);simp [zY,hb]
     ·go_wp2_with (go_at_call 199;refine (qE3 _ _ _ (by omega) Ht.out _).mono ?_;rintro e w' ⟨rfl,rfl⟩)
      go_round
      case rel =>
       refine ⟨k + 1,by omega,by go_num,?_⟩;show ∀ i,i < k + 1 -> q9 3 (l.getD i 0)=true;intro i hi;by_cases e:i=k
       ·rw [e,<- Hxk.out];exact Ht.out
       ·exact Hall.out i (by omega)
      case measure=>simp [intOf];omega
    ·have e0:k=n:=by omega
     subst e0;go_wp2;go_ret;refine ⟨qR H.out ?_,rfl⟩;have hb:=qD5 (l:=l) (by rw [Hx.out];exact Hall.out);simp [zY,hb,Hx.out,hn]
  ·have hn':50 < n:=by omega
   go_enter Tryz.func201,Tryz.ntmps201;go_wp2;go_ret;exact ⟨qR H.out (by simp [zY,Hx.out,hn]),rfl⟩
 ·have e':(s != 4)=true:=by simpa using e
  go_enter Tryz.func201,Tryz.ntmps201;go_wp2;go_ret;exact ⟨qR H.out (qGi Hx.out s e).symm,rfl⟩
theorem qRo (op a b:Int) (ao:Option Addr) (n cap:Nat) (l:List Int) (t:Bool) (h:uN op a b l=t) (w:World) (hr:Rd .i64 w ao n cap l) :
    Calls Tryz.prog 186 #[iv op a b ao n cap] w fun e w'=>e=.returned (.bool t) /\ Below w.heap.size w w':=by
 obtain ⟨s,hs⟩:∃ s,sh op=s:=⟨_,rfl⟩
 have hsb:=yB op
 unfold uN at h
 rw [hs] at h hsb
 obtain ⟨t1,h1⟩:∃ t1,q9 s a=t1:=⟨_,rfl⟩
 obtain ⟨t2,h2⟩:∃ t2,zU s b=t2:=⟨_,rfl⟩
 obtain ⟨t3,h3⟩:∃ t3,zY s l=t3:=⟨_,rfl⟩
 rw [h1,h2,h3] at h
 have H:=hid h
 have H1:=hid h1
 have H2:=hid h2
 have H3:=hid h3
 have Hs:=hid hs
 clear h h1 h2 h3 hs
 cases t1 <;> cases t2
 all_goals
  go_enter Tryz.func186,Tryz.ntmps186
  go_wp2_with fail
  refine (jS _ _ Hs.out _).mono ?_
  rintro e w1 ⟨rfl,hb⟩
  have hbb:=Bl.step (Bl.alloc (Bl.refl w) _) hb
  have hr1:=hr.below hbb
  obtain ⟨hc,hf⟩:=qEn hb
  go_wp2_with (first
   | (go_at_call 199;refine (qE3 _ _ _ hsb H1.out _).mono ?_;rintro e w' ⟨rfl,rfl⟩)
   | (go_at_call 200;refine (qS4 _ _ _ hsb H2.out _).mono ?_;rintro e w' ⟨rfl,rfl⟩)
   | (go_at_call 201;refine (qKt _ _ _ _ _ _ H3.out _ hr1).mono ?_;rintro e w' ⟨rfl,rfl⟩))
  go_ret
  exact ⟨qR H.out (by simp),hbb⟩
theorem zE (ao ao':Option Addr) (n n' cap cap':Nat) (l l':List Int) (t:Bool) (h:(l == l')=t) (w:World) (hr:Rd .i64 w ao n cap l) (hr':Rd .i64 w ao' n' cap' l') :
    Calls Tryz.prog 44 #[.slice ao n cap,.slice ao' n' cap'] w fun e w'=>e=.returned (.bool t) /\ Below w.heap.size w w':=by
 have hn63:n <= 9223372036854775807:=by have h1:=hr.le;have h2:=hr.max;unfold maxLen at h2;omega
 have hn63':n' <= 9223372036854775807:=by have h1:=hr'.le;have h2:=hr'.max;unfold maxLen at h2;omega
 have hx:=hr.len
 have hx':=hr'.len
 have Hx:=hid hx
 have Hx':=hid hx'
 have H:=hid h
 clear h hx hx'
 by_cases e:n=n'
 ·subst e
  go_enter Tryz.func44,Tryz.ntmps44;go_wp2;go_loopw [5] (fun i wr=>∃ k:Nat,k <= n /\ i=.int .i64 k /\ Hid (∀ i,i < k -> l.getD i 0=l'.getD i 0) /\ Below w.heap.size w wr) (fun i _=>n - (intOf i).toNat)
  case atStart=>exact ⟨0,qXf _,rfl,fun i hi=>by omega,qXh _ _⟩
  case round =>
   obtain ⟨k,hkn,rfl,Hall,hb⟩:=hrel;by_cases hk:k < n
   ·obtain ⟨b,off,rfl,hc⟩:=(hr.below hb).at (by omega)
    obtain ⟨b',off',rfl,hc'⟩:=(hr'.below hb).at (by omega)
    have hck:=hc k hk;have hck':=hc' k hk
    obtain ⟨x,hxk⟩:∃ x,x=l.getD k 0:=⟨_,rfl⟩
    obtain ⟨x',hxk'⟩:∃ x,x=l'.getD k 0:=⟨_,rfl⟩
    rw [<- hxk] at hck;rw [<- hxk'] at hck';have Hxk:=hid hxk;have Hxk':=hid hxk';clear hc hxk hc' hxk';by_cases e:x=x'
    ·subst e
     go_wp2_with fail;go_quiet (fail);go_wp2_with fail;go_roundw
     case rel =>
      refine ⟨k + 1,by omega,by go_num,?_,hb.trans (qW _ _ _)⟩;show ∀ i,i < k + 1 -> l.getD i 0=l'.getD i 0;intro i hi;by_cases e:i=k
      ·rw [e,<- Hxk.out,<- Hxk'.out]
      ·exact Hall.out i (by omega)
     case measure=>simp [intOf];omega
    ·have ex:(x != x')=true:=by simp [e]
     go_wp2_with fail;go_quiet (fail);go_wp2_with fail;go_ret;refine ⟨qR H.out ?_,hb.trans (qW _ _ _)⟩;symm;rw [beq_eq_false_iff_ne];intro h;exact e (by rw [Hxk.out,Hxk'.out,h])
   ·have e0:k=n:=by omega
    subst e0;go_wp2_with fail;go_ret;refine ⟨qR H.out ?_,hb⟩;symm;rw [beq_iff_eq];refine List.ext_getElem (by rw [Hx.out,Hx'.out]) fun i hi hi'=>?_;have:=Hall.out i (by rw [<- Hx.out];exact hi);simpa [List.getD,hi,hi'] using this
 ·have e':((n:Int) != (n':Int))=true:=by simp;omega
  go_enter Tryz.func44,Tryz.ntmps44;go_wp2;go_ret;refine ⟨qR H.out ?_,qXh _ _⟩;symm;rw [beq_eq_false_iff_ne];intro h;exact e (by rw [<- Hx.out,<- Hx'.out,h])
open Go.RowKit
def eqI (op a b:Int) (l:List Int) (op' a' b':Int) (l':List Int):Bool:=op == op' && (a == a' && (b == b' && l == l'))
theorem qKu (op a b:Int) (ao:Option Addr) (n cap:Nat) (l:List Int) (op' a' b':Int) (ao':Option Addr) (n' cap':Nat) (l':List Int) (t:Bool) (h:eqI op a b l op' a' b' l'=t) (w:World) (hr:Rd .i64 w ao n cap l) (hr':Rd .i64 w ao' n' cap' l') :
    Calls Tryz.prog 156 #[iv op a b ao n cap,iv op' a' b' ao' n' cap'] w fun e w'=>e=.returned (.bool t) /\ Below w.heap.size w w':=by
 unfold eqI at h
 obtain ⟨t4,h4⟩:∃ t4,(l == l')=t4:=⟨_,rfl⟩
 rw [h4] at h
 have H4:=hid h4
 have H:=hid h
 clear h h4
 cases h1:(op == op') <;> cases h2:(a == a') <;> cases h3:(b == b')
 all_goals
  go_enter Tryz.func156,Tryz.ntmps156
  go_wp2_with (go_at_call 44;refine (zE _ _ _ _ _ _ _ _ _ H4.out _ (hr.below (Bl.alloc (Bl.alloc (Bl.refl _) _) _)) (hr'.below (Bl.alloc (Bl.alloc (Bl.refl _) _) _))).mono ?_;rintro e w' ⟨rfl,hb⟩)
  go_ret
  first
   | exact ⟨qR H.out (by rw [h1,h2,h3];simp),Bl.step (Bl.alloc (Bl.alloc (Bl.refl _) _) _) hb⟩
   | exact ⟨qR H.out (by rw [h1,h2,h3];simp),Bl.alloc (Bl.alloc (Bl.refl _) _) _⟩
theorem qV6 {n:Nat}:decide (0 < n)=!((n:Int) == 0):=by
 rw [Bool.eq_iff_iff];simp;omega
theorem qE4 (op a b s:Int) (ao:Option Addr) (n cap:Nat) (l:List Int) (t:Bool) (hs:sh op=s) (h4:s ≠ 4) (h:uN op a b l=t) (w:World) (hr:Rd .i64 w ao n cap l) :
    Calls Tryz.prog 60 #[iv op a b ao n cap] w fun e w'=>e=.returned (.bool t) /\ Below w.heap.size w w':=by
 have hsb:=yB op
 rw [hs] at hsb
 unfold uN at h
 rw [hs,qGi hr.len s h4] at h
 have Hs:=hid hs
 have H:=hid h
 clear h hs
 have e:s=0 ∨ s=1 ∨ s=2 ∨ s=3 ∨ s=5 ∨ s=6 ∨ s=7 ∨ s=8 ∨ s=9:=by omega
 clear hsb h4
 have hlp:=@qV6 n
 have Hlp:=hid hlp
 clear hlp
 cases hn:decide (0 < n)
 case true =>
  rcases e with rfl | rfl | rfl | rfl | rfl | rfl | rfl | rfl | rfl
  all_goals
   go_enter Tryz.func60,Tryz.ntmps60
   go_wp2_with (go_at_call 129;refine (zK _ _ Hs.out _).mono ?_;rintro e w' ⟨rfl,rfl⟩)
   go_ret
   refine ⟨qR H.out ?_,Bl.alloc (Bl.refl _) _⟩
   have:=Hlp.out
   rw [hn] at this
   have e0:((n:Int) == 0)=false:=by simpa using this.symm
   rw [e0]
   simp
 case false =>
  have e0:((n:Int) == 0)=true:=by
   have:=Hlp.out;rw [hn] at this;simpa using this.symm
  rw [e0] at H;clear e0
  cases hb:(b == 0)
  case false =>
   have hb':(b != 0)=true:=by simp [bne,hb]
   rcases e with rfl | rfl | rfl | rfl | rfl | rfl | rfl | rfl | rfl
   case inr.inr.inr.inr.inr.inl =>
    cases h0:decide (0 <= a) <;> cases h3:decide (a <= 3) <;> cases hb0:decide (0 <= b)
    all_goals
     go_enter Tryz.func60,Tryz.ntmps60
     go_wp2_with (go_at_call 129;refine (zK _ _ Hs.out _).mono ?_;rintro e w' ⟨rfl,rfl⟩)
     go_ret
     refine ⟨qR H.out ?_,Bl.alloc (Bl.refl _) _⟩
     rw [Bool.eq_iff_iff];simp_all [q9,zU];try omega
   all_goals
    go_enter Tryz.func60,Tryz.ntmps60
    go_wp2_with (go_at_call 129;refine (zK _ _ Hs.out _).mono ?_;rintro e w' ⟨rfl,rfl⟩)
    go_ret
    refine ⟨qR H.out ?_,Bl.alloc (Bl.refl _) _⟩
    rw [Bool.eq_iff_iff];simp_all [q9,zU]
  case true =>
   have hb':(b != 0)=false:=by simp [bne,hb]
   have eb:b=0:=by simpa using hb
   clear hb;subst eb;rcases e with rfl | rfl | rfl | rfl | rfl | rfl | rfl | rfl | rfl
   case inr.inr.inr.inr.inr.inl =>
    cases h0:decide (0 <= a) <;> cases h3:decide (a <= 3)
    all_goals
     go_enter Tryz.func60,Tryz.ntmps60
     go_wp2_with (go_at_call 129;refine (zK _ _ Hs.out _).mono ?_;rintro e w' ⟨rfl,rfl⟩)
     go_ret
     refine ⟨qR H.out ?_,Bl.alloc (Bl.refl _) _⟩
     rw [Bool.eq_iff_iff];simp_all [q9,zU]
   case inr.inr.inr.inr.inr.inr.inr.inl =>
    cases h0:decide (-2147483648 <= a)
    all_goals
     go_enter Tryz.func60,Tryz.ntmps60
     go_wp2_with (go_at_call 129;refine (zK _ _ Hs.out _).mono ?_;rintro e w' ⟨rfl,rfl⟩)
     go_ret
     refine ⟨qR H.out ?_,Bl.alloc (Bl.refl _) _⟩
     rw [Bool.eq_iff_iff];simp_all [q9,zU];try omega
   all_goals
    cases h0:decide (0 <= a)
    all_goals
     go_enter Tryz.func60,Tryz.ntmps60
     go_wp2_with (go_at_call 129;refine (zK _ _ Hs.out _).mono ?_;rintro e w' ⟨rfl,rfl⟩)
     go_ret
     refine ⟨qR H.out ?_,Bl.alloc (Bl.refl _) _⟩
     rw [Bool.eq_iff_iff];simp_all [q9,zU];try omega
open Go.RowKit
theorem qKv (op a b:Int) (ao:Option Addr) (n cap:Nat) (l:List Int) (t:Bool) (hs:sh op=4) (h:uN op a b l=t) (w:World) (hr:Rd .i64 w ao n cap l) :
    Calls Tryz.prog 60 #[iv op a b ao n cap] w fun e w'=>e=.returned (.bool t) /\ Below w.heap.size w w':=by
 have hn63:n <= 9223372036854775807:=by have h1:=hr.le;have h2:=hr.max;unfold maxLen at h2;omega
 unfold uN at h
 rw [hs] at h
 have Hs:=hid hs
 have H:=hid h
 have hx:=hr.len
 have Hx:=hid hx
 clear h hs hx
 cases hb:(b == 0)
 case false =>
  have hb':(b != 0)=true:=by simp [bne,hb]
  go_enter Tryz.func60,Tryz.ntmps60
  go_wp2_with (go_at_call 129;refine (zK _ _ Hs.out _).mono ?_;rintro e w' ⟨rfl,rfl⟩)
  go_ret;refine ⟨qR H.out ?_,Bl.alloc (Bl.refl _) _⟩;simp [zU,hb]
 case true =>
  have hb':(b != 0)=false:=by simp [bne,hb]
  have eb:b=0:=by simpa using hb
  clear hb;subst eb;have hr1:=hr.below (Bl.alloc (Bl.refl w) (Obj.cells #[.int .i64 op,.int .i64 a,.int .i64 0,.slice ao n cap] 51))
  cases h0:decide (0 <= a) <;> cases h1:decide (a <= 1000)
  all_goals
   go_enter Tryz.func60,Tryz.ntmps60
   go_wp2_with (go_at_call 129;refine (zK _ _ Hs.out _).mono ?_;rintro e w' ⟨rfl,rfl⟩)
   go_loop [4] (fun i=>∃ k:Nat,k <= n /\ i=.int .i64 k /\ Hid (∀ i,i < k -> q9 3 (l.getD i 0)=true)) (fun i=>n - (intOf i).toNat)
   case atStart=>exact ⟨0,qXf _,rfl,fun i hi=>by omega⟩
   case round =>
    obtain ⟨k,hkn,rfl,Hall⟩:=hrel;by_cases hk:k < n
    ·have hlc:=@Rd.at _ _ _ _ _ _ hr1 (by omega)
     obtain ⟨b,off,rfl,hc⟩:=hlc;have hck:=hc k hk
     obtain ⟨x,hxk⟩:∃ x,x=l.getD k 0:=⟨_,rfl⟩
     rw [<- hxk] at hck;have Hxk:=hid hxk;clear hc hxk
     cases g0:decide (x < 0)
     ·cases g1:decide (1000 < x)
      ·go_wp2
       go_round
       case rel =>
        refine ⟨k + 1,by omega,by go_num,?_⟩;show ∀ i,i < k + 1 -> q9 3 (l.getD i 0)=true;intro i hi;by_cases e:i=k
        ·rw [e,<- Hxk.out];simp [q9];simp at g0 g1;omega
        ·exact Hall.out i (by omega)
       case measure=>simp [intOf];omega
      ·go_wp2
       go_ret;refine ⟨qR H.out ?_,Bl.alloc (Bl.refl _) _⟩;have hb:=qAl (l:=l) (k:=k) (by rw [Hx.out];exact hk) (by rw [<- Hxk.out];simp at g0 g1;simp [q9];omega);simp [zY,hb]
     ·go_wp2
      go_ret;refine ⟨qR H.out ?_,Bl.alloc (Bl.refl _) _⟩;have hb:=qAl (l:=l) (k:=k) (by rw [Hx.out];exact hk) (by rw [<- Hxk.out];simp at g0;simp [q9];omega);simp [zY,hb]
    ·have e0:k=n:=by omega
     subst e0;go_wp2;go_ret;refine ⟨qR H.out ?_,Bl.alloc (Bl.refl _) _⟩;have hb:=qD5 (l:=l) (by rw [Hx.out];exact Hall.out);have hm:zY 4 l=decide (k <= 50):=by simp [zY,hb,Hx.out]
     rw [hm,show q9 4 a=(decide (0 <= a) && decide (a <= 1000)) from by simp [q9],show zU 4 0=true from by decide,h0,h1];simp
     try omega
theorem qH0 (op a b:Int) (ao:Option Addr) (n cap:Nat) (l:List Int) (t:Bool) (h:uN op a b l=t) (w:World) (hr:Rd .i64 w ao n cap l) :
    Calls Tryz.prog 60 #[iv op a b ao n cap] w fun e w'=>e=.returned (.bool t) /\ Below w.heap.size w w':=by
 by_cases h4:sh op=4
 ·exact qKv op a b ao n cap l t h4 h w hr
 ·exact qE4 op a b _ ao n cap l t rfl h4 h w hr
open Go.RowKit
theorem qE5:(Tryz.prog.info? 3).map (fun i=>(i.zero,i.size,i.bytes))=some (some (.int .i64 0),1,8):=by kernel_rfl
theorem zR (x:Int) (w:World) (h0:0 <= x) (h1:x <= 9223372036854775807) :
    Calls Tryz.prog 206 #[.int .i64 x] w fun e w'=>∃ v,e=.returned v /\ Own 5 .u8 w.heap.size w' v (qZ 9 x) /\ Below w.heap.size w w':=by
 go_enter Tryz.func206,Tryz.ntmps206
 go_wp2_with fail
 refine (qJw none 0 0 [] x _ (Rd.empty _ _) (by omega) h0 (by omega)).mono ?_
 rintro e w' ⟨v,rfl,hv,hb⟩
 go_wp2_with fail
 go_ret
 exact ⟨_,rfl,by simpa using hv,hb⟩
theorem qS5 (a:Int) (w:World):Calls Tryz.prog 205 #[.int .i64 a] w fun e w'=>e=.returned (.int .u8 (qOq a)) /\ w=w':=by
 cases h1:(a == 1) <;> cases h2:(a == 2)
 all_goals
  go_enter Tryz.func205,Tryz.ntmps205
  go_wp2
  go_ret
  exact ⟨by simp at h1 h2;simp [qOq,h1,h2],rfl⟩
theorem qC3 (x:Int):∀ l:List Int,vQ (l ++ [x])=vQ l ++ qZ 9 x
 | []=>by simp [vQ]
 | y :: r=>by simp [vQ,qC3 x r]
theorem uO:∀ l:List Int,(vQ l).length <= 10 * l.length
 | []=>by simp [vQ]
 | y :: r=>by
   have:=uO r;have:=qE 9 y;simp only [vQ,qW7,qXg];omega
theorem qA3 {l:List Int} {k:Nat} (h:k < l.length):l.take (k + 1)=l.take k ++ [l.getD k 0]:=by
 rw [List.take_succ_eq_append_getElem h];simp [List.getD,h]
theorem qS6 (ao:Option Addr) (n cap:Nat) (l:List Int) (w:World) (hr:Rd .i64 w ao n cap l) (hi:∀ x ∈ l,0 <= x /\ x <= 1000) (hn:n <= 1000) :
    Calls Tryz.prog 207 #[.slice ao n cap] w fun e w'=>∃ v,e=.returned v /\ Own 5 .u8 w.heap.size w' v (qZ 9 n ++ vQ l) /\ Below w.heap.size w w':=by
 have hx:=hr.len
 have Hx:=hid hx
 have Hi:=hid hi
 clear hx hi
 go_enter Tryz.func207,Tryz.ntmps207
 go_wp2_with fail
 refine (zR n _ (by omega) (by omega)).mono ?_
 rintro e w0 ⟨v0,rfl,hv0,hb0⟩
 go_wp2_with fail
 go_loopw [3,5,11] (fun v x i wr=>∃ k:Nat,k <= n /\ i=.int .i64 k /\ Own 5 .u8 w.heap.size wr v (qZ 9 n ++ vQ (l.take k)) /\ Below w.heap.size w wr) (fun _ _ i _=>n - (intOf i).toNat)
 case atStart=>exact ⟨0,qXf _,rfl,by simpa [vQ] using hv0,hb0⟩
 case round =>
  obtain ⟨k,hkn,rfl,hv,hb⟩:=hrel;have hsz:=hb.size;by_cases hk:k < n
  ·obtain ⟨b,off,rfl,hc⟩:=(hr.below hb).at (by omega)
   have hck:=hc k hk;have hkl:k < l.length:=by rw [Hx.out];exact hk
   obtain ⟨x,hxk⟩:∃ x,x=l.getD k 0:=⟨_,rfl⟩
   have hxb:0 <= x /\ x <= 1000:=by rw [hxk];exact Hi.out _ (by simp [List.getD,hkl])
   have hs:=qA3 hkl;rw [<- hxk] at hck hs;have Hs:=hid hs
   have hle:(qZ 9 (n:Int) ++ vQ (l.take k)).length <= 20000:=by
    have h1:=uO (l.take k);have h2:=qE 9 (n:Int);have h3:(l.take k).length <= k:=List.length_take_le _ _;simp only [qW7];omega
   have hxl:(qZ 9 x).length <= 10:=qE 9 x
   obtain ⟨ys,hys⟩:∃ ys,ys=qZ 9 (n:Int) ++ vQ (l.take k):=⟨_,rfl⟩
   rw [<- hys] at hv hle;have Hys:=hid hys;clear hc hxk hs hys;go_wp2_with fail;refine (zR x _ (by omega) (by omega)).mono ?_;rintro e w1 ⟨v1,rfl,hv1,hb1⟩;obtain ⟨ao1,cap1,rfl,hr1⟩:=hv1.rd;have hv':=hv.below hb1 (qW8 _);have hsz1:=hb1.size
   obtain ⟨m1,hm1⟩:∃ m1,m1=(qZ 9 x).length:=⟨_,rfl⟩
   rw [<- hm1] at hr1 hxl ⊢;have Hm1:=hid hm1;clear hm1 hv
   go_wp2_with (at_builtin;refine qA rfl (.tmp 15) (.tmp 17) 37 rfl 5 .u8 w.heap.size 1 Tryz.underlying37 qG _ _ rfl hv' ao1 _ cap1 _ rfl hr1 (by omega) (by omega) (by omega) ?_;intro v' w2 h3 h4 _)
   go_roundw
   case rel =>
    refine ⟨k + 1,by omega,by go_num,?_,hb.trans ((hb1.mono hsz).trans h4)⟩;rw [Hs.out,qC3,<- qXe,<- Hys.out];exact h3
   case measure=>simp [intOf];omega
  ·have e0:k=n:=by omega
   subst e0;have hl:l.take k=l:=qW9 (by rw [Hx.out];omega);have Hl:=hid hl;clear hl;go_wp2_with fail;go_ret;exact ⟨_,rfl,by rw [Hl.out] at hv;exact hv,hb⟩
theorem qP0 (n:Nat) (w:World) (hn:n <= 1099511627776) :
    Calls Tryz.prog 130 #[.slice none 0 0,.int .i64 n] w fun e w'=>∃ v,e=.returned v /\ Own 5 .u8 w.heap.size w' v [] /\ Below w.heap.size w w':=by
 obtain ⟨i0,hi0,hz0,hz1,hz2⟩:=info_parts qG
 by_cases h0:n=0
 ·subst h0
  go_enter Tryz.func130,Tryz.ntmps130;go_wp2;go_ret;exact ⟨_,rfl,Own.nil _ _ _ _,qXh _ _⟩
 ·have h1:¬ ((n:Int) < 0):=by omega
  have h4:(n:Int) > 0:=by omega
  have hold:(Builtin.firstCells i0.size 0 (.slice none 0 0)).run Tryz.prog w.drew=.ok ([]:List Value).toArray w.drew:=run_firstCells_none w.drew i0.size 0 0 0;have hrz:=fun ty=>Lib.run_append_grow_zeros (P:=Tryz.prog) w 37 3 ty 5 i0 (.int .u8 0) .i64 .i64 Tryz.underlying37 Tryz.underlying3 hi0 hz0 none 0 0 [] hold n (by omega) (by omega) (by omega) (by omega) (by rw [hz2];omega) (growslice_fits (by omega) (by rw [hz2];omega))
  simp only [Nat.zero_add] at hrz
  obtain ⟨G,hG⟩:∃ G,G=grownCap w n 0 5:=⟨_,rfl⟩
  have hGn:n <= grownCap w n 0 5:=grownCap_ge w _ _ _;have hG63:=grownCap_le_maxLen w n 0 5 (by unfold maxLen;omega);rw [<- hG] at hGn hG63;have HG63:=hid hG63;unfold maxLen at hG63;rw [<- hG] at hrz;clear hold hG hz0 hz1 hz2 hi0;go_enter Tryz.func130,Tryz.ntmps130
  go_wp2_with (at_builtin;refine Lib.wpList_append_run _ rfl _ _ _ _ rfl _ _ rfl rfl _ _ (hrz _) ?_)
  all_goals (go_ret;refine ⟨_,rfl,⟨?_,fun _ h=>by cases h⟩,?_⟩)
  ·exact World.ownsRow_made w _ G (qW8 _) HG63.out (by simp [size_zeroCells];omega)
  ·exact (Bl.alloc (Bl.refl w) _).drew
structure Piece where
 ao:Option Addr
 n:Nat
 cap:Nat
 xs:List Int
def Piece.v (p:Piece):Value:=.slice p.ao p.n p.cap
instance:Inhabited Piece:=⟨⟨none,0,0,[]⟩⟩
def vY:List Piece -> List Int
 | []=>[]
 | p :: r=>p.xs ++ vY r
def vC:List Piece -> Nat
 | []=>0
 | p :: r=>p.n + vC r
theorem qGj (p:Piece):∀ l,vY (l ++ [p])=vY l ++ p.xs
 | []=>by simp [vY]
 | q :: r=>by simp [vY,qGj p r]
theorem qA4 (p:Piece):∀ l,vC (l ++ [p])=vC l + p.n
 | []=>by simp [vC]
 | q :: r=>by simp [vC,qA4 p r];omega
theorem vZ:∀ (l:List Piece) (k:Nat),vC (l.take k) <= vC l
 | [],k=>by simp [vC]
 | p :: r,0=>by simp [vC]
 | p :: r,k + 1=>by have:=vZ r k;simp only [List.take_succ_cons,vC];omega
theorem qD6 {l:List Piece} {k:Nat} (h:k < l.length):l.take (k + 1)=l.take k ++ [l.getD k default]:=by
 rw [List.take_succ_eq_append_getElem h];simp [List.getD,h]
structure Pieces (w:World) (q off:Nat) (ps:List Piece):Prop where
 cell:∀ k,k < ps.length -> w.cell? ⟨q,off + k,none⟩=some (ps.getD k default).v
 rd:∀ k,k < ps.length -> Rd .u8 w (ps.getD k default).ao (ps.getD k default).n (ps.getD k default).cap (ps.getD k default).xs
theorem Pieces.below {w w':World} {q off:Nat} {ps:List Piece} (h:Pieces w q off ps) (hb:Below w.heap.size w w'):Pieces w' q off ps :=
 ⟨fun k hk=>by
  have hc:=h.cell k hk;have hlt:=qXc w _ hc
  exact (hb.cell hlt).trans hc,fun k hk=>(h.rd k hk).below hb⟩
theorem qJe (w:World) (q off:Nat):∀ (ps:List Piece),(∀ k,k < ps.length -> Rd .u8 w (ps.getD k default).ao (ps.getD k default).n (ps.getD k default).cap (ps.getD k default).xs) -> (vY ps).length=vC ps
 | [],_=>rfl
 | p :: r,h=>by
   have h0:=(h 0 (by simp)).len;have ih:=qJe w q off r (fun k hk=>by have:=h (k + 1) (by simpa using hk);simpa [List.getD] using this);simp [List.getD] at h0;simp [vY,vC,ih,h0]
theorem jA (q off:Nat) (ps:List Piece) (m:Nat) (w:World) (hm:ps.length=m) (hm1:m <= 1000) (hp:Pieces w q off ps) (hl:vC ps <= 1099511627776) :
    Calls Tryz.prog 61 #[.slice (some ⟨q,off,none⟩) m m] w fun e w'=>∃ v,e=.returned v /\ Own 5 .u8 w.heap.size w' v (vY ps) /\ Below w.heap.size w w':=by
 have Hm:=hid hm
 clear hm
 go_enter Tryz.func61,Tryz.ntmps61
 go_wp2_with fail
 go_loop [3,5,11] (fun s x i=>∃ k:Nat,k <= m /\ i=.int .i64 k /\ ∃ n:Nat,s=.int .i64 n /\ Hid (n=vC (ps.take k))) (fun _ _ i=>m - (intOf i).toNat)
 case atStart=>exact ⟨0,qXf _,rfl,0,rfl,by show _=_;simp [vC]⟩
 case round =>
  obtain ⟨k,hkm,rfl,n,rfl,Hn⟩:=hrel;have hln:=vZ ps k;rw [<- Hn.out] at hln;by_cases hk:k < m
  ·have hkl:k < ps.length:=by rw [Hm.out];exact hk
   have hck:=hp.cell k hkl;have hs:=qD6 hkl
   obtain ⟨⟨ao,c,cap,xs⟩,hpk⟩:∃ p,p=ps.getD k default:=⟨_,rfl⟩
   rw [<- hpk] at hck hs;have h2:=vZ ps (k + 1);rw [hs,qA4,<- Hn.out] at h2;have Hs:=hid hs;simp only [Piece.v] at hck;simp only at h2;clear hpk hs;go_wp2_with fail;go_round
   case rel=>exact ⟨k + 1,by omega,by go_num,n + c,by go_num,by show _=_;rw [Hs.out,qA4,<- Hn.out]⟩
   case measure=>simp [intOf];omega
  ·have e0:k=m:=by omega
   subst e0;have hl0:ps.take k=ps:=qW9 (by rw [Hm.out];omega);have Hn':=hid (show n=vC ps by rw [Hn.out,hl0]);have hnb:n <= 1099511627776:=by omega
   clear hl0 Hn;go_wp2_with fail;refine (qP0 n w hnb).mono ?_;rintro e w0 ⟨v0,rfl,hv0,hb0⟩;go_wp2_with fail;go_loopw [6,8,27] (fun v x i wr=>∃ j:Nat,j <= k /\ i=.int .i64 j /\ Own 5 .u8 w.heap.size wr v (vY (ps.take j)) /\ Below w.heap.size w wr) (fun _ _ i _=>k - (intOf i).toNat)
   case atStart=>exact ⟨0,qXf _,rfl,by simpa [vY] using hv0,hb0⟩
   case round =>
    obtain ⟨j,hjk,rfl,hv,hb⟩:=hrel;have hsz:=hb.size;by_cases hj:j < k
    ·have hjl:j < ps.length:=by rw [Hm.out];exact hj
     have hp1:=hp.below hb;have hcj:=hp1.cell j hjl;have hrj:=hp1.rd j hjl;have hs:=qD6 hjl
     have hcl:=qJe wr q off (ps.take j) (fun i hi=>by
      have hi':i < j:=by simp at hi;omega
      have:=hp1.rd i (by omega)
      simpa [List.getD,hi',show i < ps.length by omega] using this)
     obtain ⟨⟨ao,c,cap,xs⟩,hpj⟩:∃ p,p=ps.getD j default:=⟨_,rfl⟩
     rw [<- hpj] at hcj hrj hs;have h2:=vZ ps (j + 1);rw [hs,qA4] at h2;have h3:=vZ ps j;have Hs:=hid hs;simp only [Piece.v] at hcj;simp only at h2 hrj
     obtain ⟨ys,hys⟩:∃ ys,ys=vY (ps.take j):=⟨_,rfl⟩
     rw [<- hys] at hv hcl;have hyl:ys.length + c <= 1099511627776:=by omega
     have Hys:=hid hys;clear hpj hs hcl h2 h3 hys hp1
     go_wp2_with (at_builtin;refine qA rfl (.tmp 31) (.tmp 32) 37 rfl 5 .u8 w.heap.size 1 Tryz.underlying37 qG _ _ rfl hv _ _ _ _ rfl hrj (by omega) (by omega) (by omega) ?_;intro v' w2 h3 h4 _)
     go_roundw
     case rel =>
      refine ⟨j + 1,by omega,by go_num,?_,hb.trans h4⟩;rw [Hs.out,qGj,<- Hys.out];exact h3
     case measure=>simp [intOf];omega
    ·have e0:j=k:=by omega
     subst e0;have hl0:ps.take j=ps:=qW9 (by rw [Hm.out];omega);have Hl:=hid hl0;clear hl0;go_wp2_with fail;go_ret;exact ⟨_,rfl,by rw [Hl.out] at hv;exact hv,hb⟩
open Go.RowKit
def jW (E:TypeId) (k:IntKind) (base:Nat) (xs:List Int):Value -> World -> Prop:=fun v w=>Own E k base w v xs
theorem qB.own (E:TypeId) (k:IntKind) (base:Nat) (xs:List Int):qB (jW E k base xs):=fun _ _ _ h hb=>Own.below h hb (qW8 _)
theorem jK (w:World) (k:IntKind) (E:TypeId) (xs:List Int) (hn:xs.length <= maxLen) (h:∀ x ∈ xs,(Lit.int k x).wf=true) :
    Own E k w.heap.size (w.alloc (.cells (xs.map (Value.int k)).toArray E)) (.slice (some ⟨w.heap.size,0,none⟩) xs.length xs.length) xs :=
 ⟨⟨by simp,.inr ⟨w.heap.size,_,_,rfl,qW8 _,heap_alloc_new w _,qW8 _,hn,by simp,by simp [List.take_of_length_le]⟩⟩,h⟩
theorem qC4 {P:Program} {w:World} (t ty E:TypeId) (k:IntKind) (bytes:Nat) (ht:P.underlying t=some (.slice E)) (hi:(P.info? E).map (fun i=>(i.zero,i.size,i.bytes))=some (some (.int k 0),1,bytes))
    (ad ad':Addr) (n m c:Nat) (xs ys:List Int) (hr:Rd k w (some ad) n n xs) (hr':Rd k w (some ad') m c ys) (hm:0 < m) (h63:n + m <= 4611686018427387904) (hbytes:(n + m) * bytes <= 140737488355328) :
    ∃ v' w',(Builtin.append_ #[t,t] ty #[.slice (some ad) n n,.slice (some ad') m c]).run P w=.ok v' w' /\ Own E k w.heap.size w' v' (xs ++ ys) /\ Below w.heap.size w w':=by
 obtain ⟨i,hi0,hz,hsz,hby⟩:=info_parts hi
 have hr0:=run_append_grow (P:=P) w t ty E i (.int k 0) ht hi0 hz ad n n (xs.map (Value.int k)) (by simp [hr.len,hsz]) (hr.news rfl) ad' m c (ys.map (Value.int k)) (by simp [hr'.len,hsz]) (hr'.news rfl) (by omega) (by omega)
  (growslice_fits (by omega) (by rw [hby];exact hbytes))
 have hge:=grownCap_ge w (n + m) n E
 have hcm:=grownCap_le_maxLen w (n + m) n E (by unfold maxLen;omega)
 refine ⟨_,_,hr0,⟨⟨by simp,.inr ⟨w.heap.size,_,_,?_,qW8 _,heap_alloc_new w.drew _,?_,hcm,?_,?_⟩⟩,?_⟩,(Bl.refl w).drew.alloc (qW8 _) _⟩
 ·simp [hr.len,hr'.len]
 ·simp only [qW7,hr.len,hr'.len];exact hge
 ·have hz1:(Value.int k 0).cells.size=1:=rfl
  simp [size_zeroCells,hr.len,hr'.len,hz1];omega
 ·have hl:(xs ++ ys).length * 1=((xs ++ ys).map (Value.int k)).length:=by simp
  rw [hl];simp only [Array.toList_append,List.map_append];exact List.take_left
 ·intro z hz'
  rcases List.mem_append.1 hz' with hz' | hz'
  ·exact hr.wf z hz'
  ·exact hr'.wf z hz'
theorem uA {op a b:Int} {l:List Int} (h:uN op a b l=true):q9 (sh op) a=true /\ zU (sh op) b=true /\ zY (sh op) l=true:=by
 simpa [uN] using h
theorem qKw (op a b:Int) (ao:Option Addr) (n cap:Nat) (w:World) (hs:sh op=3) (ha:0 <= a /\ a <= 1000) :
    Calls Tryz.prog 196 #[iv op a b ao n cap] w fun e w'=>∃ v,e=.returned v /\ Own 5 .u8 w.heap.size w' v (qZ 9 a) /\ Below w.heap.size w w':=by
 have Hs:=hid hs
 clear hs
 go_enter Tryz.func196,Tryz.ntmps196
 go_wp2_with fail
 refine (jS _ _ Hs.out _).mono ?_
 rintro e w1 ⟨rfl,hb⟩
 have hbb:=Bl.step (Bl.alloc (Bl.refl w) _) hb
 obtain ⟨hc,hf⟩:=qEn hb
 go_wp2_with fail
 refine (zR a _ (by omega) (by omega)).mono ?_
 rintro e w2 ⟨v,rfl,hv,hb2⟩
 have hv':=hv.lift hbb.size
 go_wp2_with fail
 go_ret
 exact ⟨_,rfl,hv',Bl.step hbb hb2⟩
theorem qKx (op a b:Int) (ao:Option Addr) (n cap:Nat) (w:World) (hs:sh op=2) :
    Calls Tryz.prog 196 #[iv op a b ao n cap] w fun e w'=>∃ v,e=.returned v /\ Own 5 .u8 w.heap.size w' v [qOq a] /\ Below w.heap.size w w':=by
 have Hs:=hid hs
 clear hs
 go_enter Tryz.func196,Tryz.ntmps196
 go_wp2_with fail
 refine (jS _ _ Hs.out _).mono ?_
 rintro e w1 ⟨rfl,hb⟩
 have hbb:=Bl.step (Bl.alloc (Bl.refl w) _) hb
 obtain ⟨hc,hf⟩:=qEn hb
 go_wp2_with fail
 refine (qS5 a _).mono ?_
 rintro e w2 ⟨rfl,rfl⟩
 go_wp2_with fail
 go_ret
 refine ⟨_,rfl,(jK w1 .u8 5 [qOq a] (by unfold maxLen;simp) (fun x hx=>?_)).lift hbb.size,Bl.step hbb (Bl.alloc (Bl.refl _) _)⟩
 simp at hx
 subst hx
 unfold qOq
 (repeat' split) <;> decide
theorem qKy (op a b:Int) (ao:Option Addr) (n cap:Nat) (w:World) (hs:sh op=7) :
    Calls Tryz.prog 196 #[iv op a b ao n cap] w fun e w'=>∃ v,e=.returned v /\ Own 5 .u8 w.heap.size w' v [0] /\ Below w.heap.size w w':=by
 have Hs:=hid hs
 clear hs
 go_enter Tryz.func196,Tryz.ntmps196
 go_wp2_with fail
 refine (jS _ _ Hs.out _).mono ?_
 rintro e w1 ⟨rfl,hb⟩
 have hbb:=Bl.step (Bl.alloc (Bl.refl w) _) hb
 go_wp2_with fail
 go_ret
 refine ⟨_,rfl,(jK w1 .u8 5 [0] (by unfold maxLen;simp) (fun x hx=>?_)).lift hbb.size,Bl.step hbb (Bl.alloc (Bl.refl _) _)⟩
 simp at hx
 subst hx
 decide
theorem qKz (op a b:Int) (ao:Option Addr) (n cap:Nat) (w:World) (hs:sh op=1) :
    Calls Tryz.prog 196 #[iv op a b ao n cap] w fun e w'=>∃ v,e=.returned v /\ Own 5 .u8 w.heap.size w' v [] /\ Below w.heap.size w w':=by
 have Hs:=hid hs
 clear hs
 go_enter Tryz.func196,Tryz.ntmps196
 go_wp2_with fail
 refine (jS _ _ Hs.out _).mono ?_
 rintro e w1 ⟨rfl,hb⟩
 have hbb:=Bl.step (Bl.alloc (Bl.refl w) _) hb
 go_wp2_with fail
 go_ret
 exact ⟨_,rfl,Own.nil _ _ _ _,hbb⟩
theorem qC5 (op a b s:Int) (ao:Option Addr) (n cap:Nat) (w:World) (hs:sh op=s) (h89:s=8 ∨ s=9) (ha:-9223372036854775808 <= a /\ a <= 9223372036854775807) :
    Calls Tryz.prog 196 #[iv op a b ao n cap] w fun e w'=>∃ v,e=.returned v /\ Own 5 .u8 w.heap.size w' v (yH 9 a) /\ Below w.heap.size w w':=by
 have Hs:=hid hs
 clear hs
 rcases h89 with rfl | rfl
 all_goals
  go_enter Tryz.func196,Tryz.ntmps196
  go_wp2_with fail
  refine (jS _ _ Hs.out _).mono ?_
  rintro e w1 ⟨rfl,hb⟩
  have hbb:=Bl.step (Bl.alloc (Bl.refl w) _) hb
  obtain ⟨hc,hf⟩:=qEn hb
  go_wp2_with fail
  refine (qQ9 none 0 0 [] a _ (Rd.empty _ _) (by omega) ha.1 ha.2).mono ?_
  rintro e w2 ⟨v,rfl,hv,hb2⟩
  have hv':=hv.lift hbb.size
  go_wp2_with fail
  go_ret
  exact ⟨_,rfl,by simpa using hv',Bl.step hbb hb2⟩
theorem qK0 (op a b:Int) (ao:Option Addr) (n cap:Nat) (w:World) (hs:sh op=5) (ha:0 <= a /\ a <= 1000) :
    Calls Tryz.prog 196 #[iv op a b ao n cap] w fun e w'=>∃ v,e=.returned v /\ Own 5 .u8 w.heap.size w' v (qZ 9 a ++ [0]) /\ Below w.heap.size w w':=by
 have Hs:=hid hs
 clear hs
 go_enter Tryz.func196,Tryz.ntmps196
 go_wp2_with fail
 refine (jS _ _ Hs.out _).mono ?_
 rintro e w1 ⟨rfl,hb⟩
 have hbb:=Bl.step (Bl.alloc (Bl.refl w) _) hb
 obtain ⟨hc,hf⟩:=qEn hb
 go_wp2_with fail
 refine (zR a _ (by omega) (by omega)).mono ?_
 rintro e w2 ⟨v,rfl,hv,hb2⟩
 have hb3:=Bl.step hbb hb2
 have hv':=(hv.lift hbb.size).below (Bl.alloc (Bl.refl w2) (.cells #[.int .u8 0] 5)) (qW8 _)
 have hxl:=qE 9 a
 clear hv hc hf
 go_wp2_with (at_builtin;refine qA rfl (.tmp 30) (.tmp 31) 37 rfl 5 .u8 w.heap.size 1 Tryz.underlying37 qG _ _ rfl hv' _ 1 1 [0] rfl (Rd.built _ _ _ _ (by decide)) (by omega) (by omega) (Bl.alloc hb3 _).size ?_;intro v' w3 h3 h4 _)
 go_ret
 exact ⟨_,rfl,h3,(Bl.alloc hb3 _).trans h4⟩
theorem qK1 (op p q:Int) (ao:Option Addr) (n cap:Nat) (w:World) (hs:sh op=6) (ha:0 <= p /\ p <= 3) (hb':0 <= q /\ q <= 4294967295) :
    Calls Tryz.prog 196 #[iv op p q ao n cap] w fun e w'=>∃ v,e=.returned v /\ Own 5 .u8 w.heap.size w' v (qZ 9 p ++ qZ 9 q) /\ Below w.heap.size w w':=by
 have Hs:=hid hs
 clear hs
 go_enter Tryz.func196,Tryz.ntmps196
 go_wp2_with fail
 refine (jS _ _ Hs.out _).mono ?_
 rintro e w0 ⟨rfl,hb⟩
 have hbb:=Bl.step (Bl.alloc (Bl.refl w) _) hb
 have hca:w0.cell? ⟨w.heap.size,1,none⟩=some (.int .i64 p):=by rw [(qEn hb).1 _ _ (by simp)];simp [World.cell?_alloc_at]
 have hcb:w0.cell? ⟨w.heap.size,2,none⟩=some (.int .i64 q):=by rw [(qEn hb).1 _ _ (by simp)];simp [World.cell?_alloc_at]
 have hlt:w.heap.size < w0.heap.size:=by have:=hb.size;simp at this;omega
 clear hb
 have hxa:=qE 9 p
 have hxb:=qE 9 q
 go_wp2_with fail
 refine qD 6 (by kernel_rfl) [Is ?vA0,Is (.int .i64 p),jW 5 .u8 w0.heap.size (qZ 9 p),Is ?vA3,Is (.int .i64 q),jM .u8 (qZ 9 q)] [0,1,2,3,4,5] rfl (by kernel_rfl) rfl (by kernel_rfl) ?hopA ?hstA ?hendA
 case hopA =>
  refine ⟨rq (Is ?vA0) none [] [(1,.pointer (some ⟨w.heap.size,0,none⟩))] ⟨⟨by kernel_rfl,rfl⟩,trivial⟩ ?_,?_⟩
  ·intro a w1 hC e1
   refine Or.inl ⟨_,?_,rfl⟩;go_simp
   first | (go_bits;rfl) | rfl | (rw [if_pos (by omega)])
  refine ⟨rq (Is (.int .i64 p)) none [(some 35,Is ?vA0)] [] trivial ?_,?_⟩
  ·intro a w1 hC (h0:a.tmps.getD 35 undef=_)
   refine Or.inl ⟨.int .i64 p,?_,rfl⟩;have hcw:=(hC.cell hlt).trans hca;go_simp
  refine ⟨rq (jW 5 .u8 w0.heap.size (qZ 9 p)) none [(some 36,Is (.int .i64 p))] [] trivial ?_,?_⟩
  ·intro a w1 hC (h1:a.tmps.getD 36 undef=_)
   refine Or.inr (Or.inl ⟨206,#[.int .i64 p],?_,?_⟩)
   ·go_simp
   ·refine (zR p w1 (by omega) (by omega)).mono ?_
    rintro e w2 ⟨vv,rfl,hown,hbel⟩;exact ⟨_,rfl,hown.lift hC.size,hbel⟩
  refine ⟨rq (Is ?vA3) none [] [(1,.pointer (some ⟨w.heap.size,0,none⟩))] ⟨⟨by kernel_rfl,rfl⟩,trivial⟩ ?_,?_⟩
  ·intro a w1 hC e1
   refine Or.inl ⟨_,?_,rfl⟩;go_simp
   first | (go_bits;rfl) | rfl | (rw [if_pos (by omega)])
  refine ⟨rq (Is (.int .i64 q)) none [(some 38,Is ?vA3)] [] trivial ?_,?_⟩
  ·intro a w1 hC (h3:a.tmps.getD 38 undef=_)
   refine Or.inl ⟨.int .i64 q,?_,rfl⟩;have hcw:=(hC.cell hlt).trans hcb;go_simp
  refine ⟨rq (jM .u8 (qZ 9 q)) none [(some 39,Is (.int .i64 q)),(some 37,jW 5 .u8 w0.heap.size (qZ 9 p))] [] trivial ?_,?_⟩
  ·intro a w1 hC (h4:a.tmps.getD 39 undef=_) h2
   refine Or.inr (Or.inl ⟨206,#[.int .i64 q],?_,?_⟩)
   ·go_simp
   ·refine (zR q w1 (by omega) (by omega)).mono ?_
    rintro e w2 ⟨vv,rfl,hown,hbel⟩;obtain ⟨ao1,cap1,rfl,hrd⟩:=hown.rd;exact ⟨_,rfl,⟨ao1,cap1,rfl,hrd⟩,hbel⟩
  exact trivial
 case hstA=>exact ⟨qB.is _,qB.is _,qB.own _ _ _ _,qB.is _,qB.is _,qB.rd _ _,trivial⟩
 case hendA =>
  intro w1 hC;rintro _ rfl;rintro _ rfl;intro x2 h2;rintro _ rfl;rintro _ rfl;intro x5 h5;obtain ⟨aoq,capq,rfl,hrq⟩:=h5;simp only [xV,Act.put,qXj,qXp,qXo,qXm,qXv];have hown2:=Own.lift h2 hbb.size;have sz:w.heap.size <= w1.heap.size:=qXk hbb.size hC.size;clear h2
  go_wp2_with (at_builtin;refine qA rfl (.tmp 37) (.tmp 40) 37 rfl 5 .u8 w.heap.size 1 Tryz.underlying37 qG _ _ rfl hown2 aoq _ capq _ rfl hrq (by omega) (by omega) sz ?_;intro v2 w2 h3 h4 _)
  go_ret;exact ⟨_,rfl,h3,(Bl.step hbb hC).trans h4⟩
theorem qK2 (op p q:Int) (ao:Option Addr) (n cap:Nat) (l:List Int) (w:World) (hs:sh op=4) (ha:0 <= p /\ p <= 1000) (hr:Rd .i64 w ao n cap l) (hi:∀ x ∈ l,0 <= x /\ x <= 1000) (hn:n <= 1000) :
    Calls Tryz.prog 196 #[iv op p q ao n cap] w fun e w'=>∃ v,e=.returned v /\ Own 5 .u8 w.heap.size w' v (qZ 9 n ++ vQ l ++ qZ 9 p) /\ Below w.heap.size w w':=by
 have Hs:=hid hs
 have Hi:=hid hi
 have hxl:(qZ 9 (n:Int) ++ vQ l).length <= 20000:=by
  have h1:=uO l;have h2:=qE 9 (n:Int);have h3:=hr.len;simp only [qW7];omega
 clear hs hi
 go_enter Tryz.func196,Tryz.ntmps196
 go_wp2_with fail
 refine (jS _ _ Hs.out _).mono ?_
 rintro e w0 ⟨rfl,hb⟩
 have hbb:=Bl.step (Bl.alloc (Bl.refl w) _) hb
 have hca:w0.cell? ⟨w.heap.size,1,none⟩=some (.int .i64 p):=by rw [(qEn hb).1 _ _ (by simp)];simp [World.cell?_alloc_at]
 have hcl:w0.cell? ⟨w.heap.size,3,none⟩=some (.slice ao n cap):=by rw [(qEn hb).1 _ _ (by simp)];simp [World.cell?_alloc_at]
 have hlt:w.heap.size < w0.heap.size:=by have:=hb.size;simp at this;omega
 clear hb
 have hxa:=qE 9 p
 have Hr:=hid (hr.below hbb)
 clear hr
 go_wp2_with fail
 refine qD 6 (by kernel_rfl) [Is ?vB0,Is (.slice ao n cap),jW 5 .u8 w0.heap.size (qZ 9 (n:Int) ++ vQ l),Is ?vB3,Is (.int .i64 p),jM .u8 (qZ 9 p)] [0,1,2,3,4,5] rfl (by kernel_rfl) rfl (by kernel_rfl) ?hopB ?hstB ?hendB
 case hopB =>
  refine ⟨rq (Is ?vB0) none [] [(1,.pointer (some ⟨w.heap.size,0,none⟩))] ⟨⟨by kernel_rfl,rfl⟩,trivial⟩ ?_,?_⟩
  ·intro a w1 hC e1
   refine Or.inl ⟨_,?_,rfl⟩;go_simp
   first | (go_bits;rfl) | rfl | (rw [if_pos (by omega)])
  refine ⟨rq (Is (.slice ao n cap)) none [(some 19,Is ?vB0)] [] trivial ?_,?_⟩
  ·intro a w1 hC (h0:a.tmps.getD 19 undef=_)
   refine Or.inl ⟨.slice ao n cap,?_,rfl⟩;have hcw:=(hC.cell hlt).trans hcl;go_simp
  refine ⟨rq (jW 5 .u8 w0.heap.size (qZ 9 (n:Int) ++ vQ l)) none [(some 20,Is (.slice ao n cap))] [] trivial ?_,?_⟩
  ·intro a w1 hC (h1:a.tmps.getD 20 undef=_)
   refine Or.inr (Or.inl ⟨207,#[.slice ao n cap],?_,?_⟩)
   ·go_simp
   ·refine (qS6 ao n cap l w1 (Hr.out.below hC) Hi.out hn).mono ?_
    rintro e w2 ⟨vv,rfl,hown,hbel⟩;exact ⟨_,rfl,hown.lift hC.size,hbel⟩
  refine ⟨rq (Is ?vB3) none [] [(1,.pointer (some ⟨w.heap.size,0,none⟩))] ⟨⟨by kernel_rfl,rfl⟩,trivial⟩ ?_,?_⟩
  ·intro a w1 hC e1
   refine Or.inl ⟨_,?_,rfl⟩;go_simp
   first | (go_bits;rfl) | rfl | (rw [if_pos (by omega)])
  refine ⟨rq (Is (.int .i64 p)) none [(some 22,Is ?vB3)] [] trivial ?_,?_⟩
  ·intro a w1 hC (h3:a.tmps.getD 22 undef=_)
   refine Or.inl ⟨.int .i64 p,?_,rfl⟩;have hcw:=(hC.cell hlt).trans hca;go_simp
  refine ⟨rq (jM .u8 (qZ 9 p)) none [(some 23,Is (.int .i64 p)),(some 21,jW 5 .u8 w0.heap.size (qZ 9 (n:Int) ++ vQ l))] [] trivial ?_,?_⟩
  ·intro a w1 hC (h4:a.tmps.getD 23 undef=_) h2
   refine Or.inr (Or.inl ⟨206,#[.int .i64 p],?_,?_⟩)
   ·go_simp
   ·refine (zR p w1 (by omega) (by omega)).mono ?_
    rintro e w2 ⟨vv,rfl,hown,hbel⟩;obtain ⟨ao1,cap1,rfl,hrd⟩:=hown.rd;exact ⟨_,rfl,⟨ao1,cap1,rfl,hrd⟩,hbel⟩
  exact trivial
 case hstB=>exact ⟨qB.is _,qB.is _,qB.own _ _ _ _,qB.is _,qB.is _,qB.rd _ _,trivial⟩
 case hendB =>
  intro w1 hC;rintro _ rfl;rintro _ rfl;intro x2 h2;rintro _ rfl;rintro _ rfl;intro x5 h5;obtain ⟨aoq,capq,rfl,hrq⟩:=h5;simp only [xV,Act.put,qXj,qXp,qXo,qXm,qXv];have hown2:=Own.lift h2 hbb.size;have sz:w.heap.size <= w1.heap.size:=qXk hbb.size hC.size;clear h2
  go_wp2_with (at_builtin;refine qA rfl (.tmp 21) (.tmp 24) 37 rfl 5 .u8 w.heap.size 1 Tryz.underlying37 qG _ _ rfl hown2 aoq _ capq _ rfl hrq (by omega) (by omega) sz ?_;intro v2 w2 h3 h4 _)
  go_ret;exact ⟨_,rfl,h3,(Bl.step hbb hC).trans h4⟩
theorem qH1 (op a b:Int) (ao:Option Addr) (n cap:Nat) (l:List Int) (w:World) (h:uN op a b l=true) (ha:-9223372036854775808 <= a /\ a <= 9223372036854775807) (hr:Rd .i64 w ao n cap l) :
    Calls Tryz.prog 196 #[iv op a b ao n cap] w fun e w'=>∃ v,e=.returned v /\ Own 5 .u8 w.heap.size w' v (zD (sh op) a b l) /\ Below w.heap.size w w':=by
 obtain ⟨h1,h2,h3⟩:=uA h
 have hb:=yB op
 obtain ⟨s,hs⟩:∃ s,sh op=s:=⟨_,rfl⟩
 rw [hs] at h1 h2 h3 hb ⊢
 have e:s=0 ∨ s=1 ∨ s=2 ∨ s=3 ∨ s=4 ∨ s=5 ∨ s=6 ∨ s=7 ∨ s=8 ∨ s=9:=by omega
 rcases e with rfl | rfl | rfl | rfl | rfl | rfl | rfl | rfl | rfl | rfl
 ·simp [q9] at h1
 ·exact qKz op a b ao n cap w hs
 ·exact qKx op a b ao n cap w hs
 ·exact qKw op a b ao n cap w hs (by simpa [q9] using h1)
 ·have hl:l.length <= 50 /\ ∀ x ∈ l,0 <= x /\ x <= 1000:=by simpa [zY,idx] using h3
  refine (qK2 op a b ao n cap l w hs (by simpa [q9] using h1) hr hl.2 (by rw [<- hr.len];omega)).mono ?_;rintro e w' ⟨v,rfl,hv,hb⟩;refine ⟨v,rfl,?_,hb⟩;rw [qXe,<- hr.len] at hv;exact hv
 ·exact qK0 op a b ao n cap w hs (by simpa [q9] using h1)
 ·exact qK1 op a b ao n cap w hs (by simpa [q9] using h1) (by simpa [zU] using h2)
 ·exact qKy op a b ao n cap w hs
 ·exact qC5 op a b 8 ao n cap w hs (.inl rfl) ha
 ·exact qC5 op a b 9 ao n cap w hs (.inr rfl) ha
open Go.RowKit
theorem qC6 {P:Program} {w w':World} {o:Oper} {a:Act} {s x:Operand} {t:TypeId} {v u r:Value} (ho:o.op=.call { callee:=.builtin .append,args:=#[s,x],argTypes:=#[t,t] })
    (hs:a.eval s=v) (hx:a.eval x=u) (hr:(Builtin.append_ #[t,t] o.type #[v,u]).run P w=.ok r w'):(execOp a.eval o).run P w=.ok (.value r) w':=by
 unfold execOp
 simp only [ho,resolve,invoke,builtin,Sem.run_bind,Sem.run_pure,Result.andThen_ok,List.map_toArray,List.map_cons,List.map_nil,hs,hx,hr]
theorem Rd.built_at (w:World) (k:IntKind) (E:TypeId) (x:Int) (h:(Lit.int k x).wf=true) {p:Nat} (hp:p=w.heap.size):Rd k (w.alloc (.cells #[.int k x] E)) (some ⟨p,0,none⟩) 1 1 [x]:=by
 subst hp;exact Rd.built w k E x h
structure Box4 (w:World) (p:Nat) (op x y:Int) (ao:Option Addr) (n cap:Nat):Prop where
 c0:w.cell? ⟨p,0,none⟩=some (.int .i64 op)
 c1:w.cell? ⟨p,1,none⟩=some (.int .i64 x)
 c2:w.cell? ⟨p,2,none⟩=some (.int .i64 y)
 c3:w.cell? ⟨p,3,none⟩=some (.slice ao n cap)
theorem Box4.new (w:World) (op x y:Int) (ao:Option Addr) (n cap:Nat) (T:TypeId):Box4 (w.alloc (.cells #[.int .i64 op,.int .i64 x,.int .i64 y,.slice ao n cap] T)) w.heap.size op x y ao n cap:=by
 constructor <;> simp [World.cell?_alloc_at]
theorem Box4.below {w w':World} {p:Nat} {op x y:Int} {ao:Option Addr} {n cap:Nat} (h:Box4 w p op x y ao n cap) (hb:Below w.heap.size w w'):Box4 w' p op x y ao n cap:=by
 have hlt:p < w.heap.size:=qXc w _ h.c0;exact ⟨(hb.cell (p:=⟨p,0,none⟩) hlt).trans h.c0,(hb.cell (p:=⟨p,1,none⟩) hlt).trans h.c1,(hb.cell (p:=⟨p,2,none⟩) hlt).trans h.c2,(hb.cell (p:=⟨p,3,none⟩) hlt).trans h.c3⟩
theorem Box4.keep {w w':World} {p B:Nat} {op x y:Int} {ao:Option Addr} {n cap:Nat} (h:Box4 w p op x y ao n cap) (hb:Below B w w') (hp:p < B):Box4 w' p op x y ao n cap :=
 ⟨(hb.cell (p:=⟨p,0,none⟩) hp).trans h.c0,(hb.cell (p:=⟨p,1,none⟩) hp).trans h.c1,(hb.cell (p:=⟨p,2,none⟩) hp).trans h.c2,(hb.cell (p:=⟨p,3,none⟩) hp).trans h.c3⟩
theorem Box4.lt {w:World} {p:Nat} {op x y:Int} {ao:Option Addr} {n cap:Nat} (h:Box4 w p op x y ao n cap):p < w.heap.size:=qXc w _ h.c0
theorem xJ (s x y:Int) (l:List Int) (hl:l.length <= 1000):(zD s x y l).length <= 20000:=by
 have h1:=qE 9 x;have h2:=qE 9 y;have h3:=qE 9 (l.length:Int);have h4:=qFm 9 x;have h5:=uO l;unfold zD
 (repeat' split) <;> simp <;> omega
theorem qU8 {op x y:Int} {l:List Int} (h:uN op x y l=true):0 <= op /\ op <= 255:=by
 refine vH fun h0=>?_;have:=(uA h).1;rw [h0] at this;simp [q9] at this
theorem qE6 {op x y:Int} {l:List Int} (h:uN op x y l=true):l.length <= 50:=by
 have:=(uA h).2.2;unfold zY at this;split at this <;> simp at this
 ·exact this.1
 ·simp [this]
theorem qRp (bo:Option Addr) (m bc:Nat) (bs:List Int) (op x y:Int) (ao:Option Addr) (n cap:Nat) (l:List Int) (w:World) (h:uN op x y l=true) (hx:-9223372036854775808 <= x /\ x <= 9223372036854775807) (hbs:Rd .u8 w bo m bc bs) (hm:m <= 1000000) (hr:Rd .i64 w ao n cap l) :
    Calls Tryz.prog 180 #[.slice bo m bc,iv op x y ao n cap] w fun e w'=>∃ v,e=.returned v /\ Own 5 .u8 w.heap.size w' v (bs ++ uW op x y l) /\ Below w.heap.size w w':=by
 have Hm:=hid h
 have hop:=qU8 h
 have hll:=xJ (sh op) x y l (qXk (qE6 h) (by decide))
 clear h
 go_enter Tryz.func180,Tryz.ntmps180
 go_wp2_with fail
 refine (qRo _ _ _ _ _ _ l true Hm.out _ (hr.below (Bl.alloc (Bl.refl w) _))).mono ?_
 rintro e w0 ⟨rfl,hb⟩
 have hbb:=Bl.step (Bl.alloc (Bl.refl w) _) hb
 have B4:=hid ((Box4.new w op x y ao n cap 51).below hb)
 have Hr:=hid (hr.below hbb)
 have Hbs:=hid (hbs.below hbb)
 clear hb hr hbs
 go_wp2_with fail
 refine qD 7 (by kernel_rfl) [Is (.slice bo m bc),Is ?vA1,Is (.int .i64 op),Is (.int .u8 op),jM .u8 [op],Is (iv op x y ao n cap),jM .u8 (zD (sh op) x y l)] [0,1,2,3,4,5,6] rfl (by kernel_rfl) rfl (by kernel_rfl) ?hopA ?hstA ?hendA
 case hopA =>
  refine ⟨rq (Is (.slice bo m bc)) none [] [(0,.slice bo m bc)] ⟨⟨by kernel_rfl,rfl⟩,trivial⟩ ?_,?_⟩
  ·intro a w1 hC e0
   refine Or.inl ⟨.slice bo m bc,?_,rfl⟩;go_simp
  refine ⟨rq (Is ?vA1) none [] [(3,.pointer (some ⟨w.heap.size,0,none⟩))] ⟨⟨by kernel_rfl,rfl⟩,trivial⟩ ?_,?_⟩
  ·intro a w1 hC e3
   refine Or.inl ⟨_,?_,rfl⟩;go_simp
   first | (go_bits;rfl) | rfl | (rw [if_pos (by omega)])
  refine ⟨rq (Is (.int .i64 op)) none [(some 12,Is ?vA1)] [] trivial ?_,?_⟩
  ·intro a w1 hC (h1:a.tmps.getD 12 undef=_)
   refine Or.inl ⟨.int .i64 op,?_,rfl⟩;have b4:=B4.out.below hC;have hcw0:=b4.c0;clear b4;go_simp
  refine ⟨rq (Is (.int .u8 op)) none [(some 13,Is (.int .i64 op))] [] trivial ?_,?_⟩
  ·intro a w1 hC (h2:a.tmps.getD 13 undef=_)
   refine Or.inl ⟨.int .u8 op,?_,rfl⟩;go_simp;rw [IntKind.wrap_u8];omega
  refine ⟨rq (jM .u8 [op]) none [(some 14,Is (.int .u8 op))] [] trivial ?_,?_⟩
  ·intro a w1 hC (h3:a.tmps.getD 14 undef=_)
   refine Or.inr (Or.inr ⟨.slice (some ⟨w1.heap.size,0,none⟩) 1 1,w1.alloc (.cells #[.int .u8 op] 5),?_,⟨_,_,rfl,Rd.built _ _ _ _ (WalkArith.wf_u8 hop)⟩,Bl.alloc (Bl.refl _) _⟩);rw [qXn] at h3;go_simp
  refine ⟨rq (Is (iv op x y ao n cap)) none [] [(3,.pointer (some ⟨w.heap.size,0,none⟩))] ⟨⟨by kernel_rfl,rfl⟩,trivial⟩ ?_,?_⟩
  ·intro a w1 hC e3
   refine Or.inl ⟨iv op x y ao n cap,?_,rfl⟩;have b4:=B4.out.below hC;have hcw0:=b4.c0;have hcw1:=b4.c1;have hcw2:=b4.c2;have hcw3:=b4.c3;clear b4;go_simp
  refine ⟨rq (jM .u8 (zD (sh op) x y l)) none [(some 16,Is (iv op x y ao n cap))] [] trivial ?_,?_⟩
  ·intro a w1 hC (h5:a.tmps.getD 16 undef=_)
   refine Or.inr (Or.inl ⟨196,#[iv op x y ao n cap],?_,?_⟩)
   ·go_simp
   ·refine (qH1 op x y ao n cap l w1 Hm.out hx (Hr.out.below hC)).mono ?_
    rintro e w2 ⟨vv,rfl,hown,hbel⟩;obtain ⟨ao1,cap1,rfl,hrd⟩:=hown.rd;exact ⟨_,rfl,⟨ao1,cap1,rfl,hrd⟩,hbel⟩
  exact trivial
 case hstA=>exact ⟨qB.is _,qB.is _,qB.is _,qB.is _,qB.rd _ _,qB.is _,qB.rd _ _,trivial⟩
 case hendA =>
  intro w1 hC;rintro _ rfl;rintro _ rfl;rintro _ rfl;rintro _ rfl;intro x4 h4;rintro _ rfl;intro x6 h6;obtain ⟨ao1,cap1,rfl,hr1⟩:=h4;obtain ⟨ao2,cap2,rfl,hr2⟩:=h6;simp only [xV,Act.put,qXj,qXp,qXo,qXm,qXv];have hr0:=Hbs.out.below hC
  obtain ⟨ps,hps⟩:∃ ps:List Piece,ps=[⟨bo,m,bc,bs⟩,⟨ao1,[op].length,cap1,[op]⟩,⟨ao2,(zD (sh op) x y l).length,cap2,zD (sh op) x y l⟩]:=⟨_,rfl⟩
  have hpl:ps.length=3:=by rw [hps];rfl
  have hle:vC ps <= 1099511627776:=by rw [hps];simp [vC];omega
  have hct:vY ps=bs ++ uW op x y l:=by rw [hps];simp [vY,uW]
  have hp:Pieces (w1.alloc (.cells #[.slice bo m bc,.slice ao1 [op].length cap1,.slice ao2 (zD (sh op) x y l).length cap2] 37)) w1.heap.size 0 ps:=by
   rw [hps];constructor
   ·intro k hk
    have:k=0 ∨ k=1 ∨ k=2:=by simp at hk;omega
    rcases this with rfl | rfl | rfl <;> simp [World.cell?_alloc_at,Piece.v,List.getD]
   ·intro k hk
    have:k=0 ∨ k=1 ∨ k=2:=by simp at hk;omega
    rcases this with rfl | rfl | rfl
    ·exact hr0.below (Bl.alloc (Bl.refl _) _)
    ·exact hr1.below (Bl.alloc (Bl.refl _) _)
    ·exact hr2.below (Bl.alloc (Bl.refl _) _)
  have Hpl:=hid hpl;have Hct:=hid hct;clear hps hpl hct hr0 hr1 hr2;go_wp2_with fail;refine (jA w1.heap.size 0 ps 3 _ Hpl.out (by omega) hp hle).mono ?_;rintro e w2 ⟨v,rfl,hv,hb2⟩;have hbz:=Bl.step hbb (Bl.step hC (Bl.alloc (Bl.refl w1) (.cells #[.slice bo m bc,.slice ao1 [op].length cap1,.slice ao2 (zD (sh op) x y l).length cap2] 37)));have hv2:=hv.lift hbz.size;go_wp2_with fail;go_ret;refine ⟨_,rfl,?_,Bl.step hbz hb2⟩;rw [Hct.out] at hv2;exact hv2
theorem qP1 (op x y:Int) (ao:Option Addr) (n cap:Nat) (w:World) (hs:sh op=1) :
    Calls Tryz.prog 125 #[iv op x y ao n cap] w fun e w'=>∃ v,e=.returned v /\ Own 5 .u8 w.heap.size w' v ([op]) /\ Below w.heap.size w w':=by
 have Hs:=hid hs
 have hop:=vH (op:=op) (by rw [hs];decide)
 clear hs
 have hwo:IntKind.u8.wrap op=op:=by rw [IntKind.wrap_u8];omega
 have Hwo:=hid hwo
 clear hwo
 obtain ⟨w0,hw0⟩:∃ w0,w0=(w.alloc (.cells #[.int .i64 op,.int .i64 x,.int .i64 y,.slice ao n cap] 51)).alloc (.cells #[.int .u8 op] 5):=⟨_,rfl⟩
 have hbb:Below w.heap.size w w0:=by rw [hw0];exact Bl.alloc (Bl.alloc (Bl.refl w) _) _
 have B4:Hid (Box4 w0 w.heap.size op x y ao n cap):=by rw [hw0];exact (Box4.new w op x y ao n cap 51).below (Bl.alloc (Bl.refl _) _)
 have hb0:Own 5 .u8 w.heap.size w0 (.slice (some ⟨w.heap.size + 1,0,none⟩) 1 1) [op]:=by
  rw [hw0];have:=jK (w.alloc (.cells #[.int .i64 op,.int .i64 x,.int .i64 y,.slice ao n cap] 51)) .u8 5 [op] (by unfold maxLen;simp) (fun z hz=>by simp at hz;subst hz;exact WalkArith.wf_u8 hop);have h2:=this.lift (base':=w.heap.size) (by simp);simpa using h2
 have HB:=hid hb0
 have HW:=hid hw0
 have hsz:=hbb.size
 clear hw0 hb0
 go_enter Tryz.func125,Tryz.ntmps125
 go_wp2_with fail
 try rw [Hwo.out]
 rw [<- HW.out]
 refine (zK _ _ Hs.out _).mono ?_
 rintro e w1 ⟨rfl,rfl⟩
 obtain ⟨hc0,hc1,hc2,hc3⟩:=B4.out
 go_wp2_with fail
 go_ret
 exact ⟨_,rfl,HB.out,hbb⟩
theorem qP2 (op x y:Int) (ao:Option Addr) (n cap:Nat) (w:World) (hs:sh op=7) :
    Calls Tryz.prog 125 #[iv op x y ao n cap] w fun e w'=>∃ v,e=.returned v /\ Own 5 .u8 w.heap.size w' v (op :: [0]) /\ Below w.heap.size w w':=by
 have Hs:=hid hs
 have hop:=vH (op:=op) (by rw [hs];decide)
 clear hs
 have hwo:IntKind.u8.wrap op=op:=by rw [IntKind.wrap_u8];omega
 have Hwo:=hid hwo
 clear hwo
 obtain ⟨w0,hw0⟩:∃ w0,w0=(w.alloc (.cells #[.int .i64 op,.int .i64 x,.int .i64 y,.slice ao n cap] 51)).alloc (.cells #[.int .u8 op] 5):=⟨_,rfl⟩
 have hbb:Below w.heap.size w w0:=by rw [hw0];exact Bl.alloc (Bl.alloc (Bl.refl w) _) _
 have B4:Hid (Box4 w0 w.heap.size op x y ao n cap):=by rw [hw0];exact (Box4.new w op x y ao n cap 51).below (Bl.alloc (Bl.refl _) _)
 have hb0:Own 5 .u8 w.heap.size w0 (.slice (some ⟨w.heap.size + 1,0,none⟩) 1 1) [op]:=by
  rw [hw0];have:=jK (w.alloc (.cells #[.int .i64 op,.int .i64 x,.int .i64 y,.slice ao n cap] 51)) .u8 5 [op] (by unfold maxLen;simp) (fun z hz=>by simp at hz;subst hz;exact WalkArith.wf_u8 hop);have h2:=this.lift (base':=w.heap.size) (by simp);simpa using h2
 have HB:=hid hb0
 have HW:=hid hw0
 have hsz:=hbb.size
 clear hw0 hb0
 go_enter Tryz.func125,Tryz.ntmps125
 go_wp2_with fail
 try rw [Hwo.out]
 rw [<- HW.out]
 refine (zK _ _ Hs.out _).mono ?_
 rintro e w1 ⟨rfl,rfl⟩
 obtain ⟨hc0,hc1,hc2,hc3⟩:=B4.out
 go_wp2_with (at_builtin;refine qA rfl (.tmp 86) (.tmp 87) 37 rfl 5 .u8 w.heap.size 1 Tryz.underlying37 qG _ _ rfl (HB.out.alloc _) _ 1 _ [0] rfl (Rd.built _ _ _ _ (by decide)) (by simp <;> omega) (by simp <;> omega) (by simp <;> omega) ?_;intro v' w2 h3 h4 _)
 go_ret
 exact ⟨_,rfl,h3,(Bl.alloc hbb _).trans h4⟩
theorem qP3 (op x y:Int) (ao:Option Addr) (n cap:Nat) (w:World) (hs:sh op=3) (hx:0 <= x /\ x <= 1000) :
    Calls Tryz.prog 125 #[iv op x y ao n cap] w fun e w'=>∃ v,e=.returned v /\ Own 5 .u8 w.heap.size w' v (op :: qZ 9 x) /\ Below w.heap.size w w':=by
 have Hs:=hid hs
 have hop:=vH (op:=op) (by rw [hs];decide)
 clear hs
 have hwo:IntKind.u8.wrap op=op:=by rw [IntKind.wrap_u8];omega
 have Hwo:=hid hwo
 clear hwo
 obtain ⟨w0,hw0⟩:∃ w0,w0=(w.alloc (.cells #[.int .i64 op,.int .i64 x,.int .i64 y,.slice ao n cap] 51)).alloc (.cells #[.int .u8 op] 5):=⟨_,rfl⟩
 have hbb:Below w.heap.size w w0:=by rw [hw0];exact Bl.alloc (Bl.alloc (Bl.refl w) _) _
 have B4:Hid (Box4 w0 w.heap.size op x y ao n cap):=by rw [hw0];exact (Box4.new w op x y ao n cap 51).below (Bl.alloc (Bl.refl _) _)
 have hb0:Own 5 .u8 w.heap.size w0 (.slice (some ⟨w.heap.size + 1,0,none⟩) 1 1) [op]:=by
  rw [hw0];have:=jK (w.alloc (.cells #[.int .i64 op,.int .i64 x,.int .i64 y,.slice ao n cap] 51)) .u8 5 [op] (by unfold maxLen;simp) (fun z hz=>by simp at hz;subst hz;exact WalkArith.wf_u8 hop);have h2:=this.lift (base':=w.heap.size) (by simp);simpa using h2
 have HB:=hid hb0
 have HW:=hid hw0
 have hsz:=hbb.size
 clear hw0 hb0
 have hxa:=qE 9 x
 go_enter Tryz.func125,Tryz.ntmps125
 go_wp2_with fail
 try rw [Hwo.out]
 rw [<- HW.out]
 refine (zK _ _ Hs.out _).mono ?_
 rintro e w1 ⟨rfl,rfl⟩
 obtain ⟨hc0,hc1,hc2,hc3⟩:=B4.out
 go_wp2_with fail
 refine (yL x _ (by omega) (by omega)).mono ?_
 rintro e w3 ⟨v,rfl,hv,hb2⟩
 obtain ⟨ao1,cap1,rfl,hrd⟩:=hv.rd
 have hown2:=HB.out.below hb2 (qW8 _)
 have hsz2:=hb2.size
 clear hv
 go_wp2_with (at_builtin;refine qA rfl (.tmp 24) (.tmp 28) 37 rfl 5 .u8 w.heap.size 1 Tryz.underlying37 qG _ _ rfl hown2 ao1 _ _ _ rfl hrd (by simp <;> omega) (by simp <;> omega) (by omega) ?_;intro v' w2 h3 h4 _)
 go_ret
 exact ⟨_,rfl,h3,(Bl.step hbb hb2).trans h4⟩
theorem qGk (op x y:Int) (ao:Option Addr) (n cap:Nat) (w:World) (s:Int) (hs:sh op=s) (h89:s=8 ∨ s=9) (hx:-9223372036854775808 <= x /\ x <= 9223372036854775807) :
    Calls Tryz.prog 125 #[iv op x y ao n cap] w fun e w'=>∃ v,e=.returned v /\ Own 5 .u8 w.heap.size w' v (op :: yH 9 x) /\ Below w.heap.size w w':=by
 have Hs:=hid hs
 have hop:=vH (op:=op) (by rw [hs];omega)
 clear hs
 have hwo:IntKind.u8.wrap op=op:=by rw [IntKind.wrap_u8];omega
 have Hwo:=hid hwo
 clear hwo
 obtain ⟨w0,hw0⟩:∃ w0,w0=(w.alloc (.cells #[.int .i64 op,.int .i64 x,.int .i64 y,.slice ao n cap] 51)).alloc (.cells #[.int .u8 op] 5):=⟨_,rfl⟩
 have hbb:Below w.heap.size w w0:=by rw [hw0];exact Bl.alloc (Bl.alloc (Bl.refl w) _) _
 have B4:Hid (Box4 w0 w.heap.size op x y ao n cap):=by rw [hw0];exact (Box4.new w op x y ao n cap 51).below (Bl.alloc (Bl.refl _) _)
 have hb0:Own 5 .u8 w.heap.size w0 (.slice (some ⟨w.heap.size + 1,0,none⟩) 1 1) [op]:=by
  rw [hw0];have:=jK (w.alloc (.cells #[.int .i64 op,.int .i64 x,.int .i64 y,.slice ao n cap] 51)) .u8 5 [op] (by unfold maxLen;simp) (fun z hz=>by simp at hz;subst hz;exact WalkArith.wf_u8 hop);have h2:=this.lift (base':=w.heap.size) (by simp);simpa using h2
 have HB:=hid hb0
 have HW:=hid hw0
 have hsz:=hbb.size
 clear hw0 hb0
 have hxa:=qFm 9 x
 go_enter Tryz.func125,Tryz.ntmps125
 go_wp2_with fail
 try rw [Hwo.out]
 rw [<- HW.out]
 refine (zK _ _ Hs.out _).mono ?_
 rintro e w1 ⟨rfl,rfl⟩
 obtain ⟨hc0,hc1,hc2,hc3⟩:=B4.out
 rcases h89 with rfl | rfl
 all_goals
  go_wp2_with fail
  refine (qRa x _ (by omega) (by omega)).mono ?_
  rintro e w3 ⟨v,rfl,hv,hb2⟩
  obtain ⟨ao1,cap1,rfl,hrd⟩:=hv.rd
  have hown2:=HB.out.below hb2 (qW8 _)
  have hsz2:=hb2.size
  clear hv
  go_wp2_with (at_builtin;refine qA rfl (.tmp 92) (.tmp 95) 37 rfl 5 .u8 w.heap.size 1 Tryz.underlying37 qG _ _ rfl hown2 ao1 _ _ _ rfl hrd (by simp <;> omega) (by simp <;> omega) (by omega) ?_;intro v' w2 h3 h4 _)
  go_ret
  exact ⟨_,rfl,h3,(Bl.step hbb hb2).trans h4⟩
theorem qP4 (op x y:Int) (ao:Option Addr) (n cap:Nat) (w:World) (hs:sh op=5) (hx:0 <= x /\ x <= 1000) :
    Calls Tryz.prog 125 #[iv op x y ao n cap] w fun e w'=>∃ v,e=.returned v /\ Own 5 .u8 w.heap.size w' v (op :: (qZ 9 x ++ [0])) /\ Below w.heap.size w w':=by
 have Hs:=hid hs
 have hop:=vH (op:=op) (by rw [hs];decide)
 clear hs
 have hwo:IntKind.u8.wrap op=op:=by rw [IntKind.wrap_u8];omega
 have Hwo:=hid hwo
 clear hwo
 obtain ⟨w0,hw0⟩:∃ w0,w0=(w.alloc (.cells #[.int .i64 op,.int .i64 x,.int .i64 y,.slice ao n cap] 51)).alloc (.cells #[.int .u8 op] 5):=⟨_,rfl⟩
 have hbb:Below w.heap.size w w0:=by rw [hw0];exact Bl.alloc (Bl.alloc (Bl.refl w) _) _
 have B4:Hid (Box4 w0 w.heap.size op x y ao n cap):=by rw [hw0];exact (Box4.new w op x y ao n cap 51).below (Bl.alloc (Bl.refl _) _)
 have hb0:Own 5 .u8 w.heap.size w0 (.slice (some ⟨w.heap.size + 1,0,none⟩) 1 1) [op]:=by
  rw [hw0];have:=jK (w.alloc (.cells #[.int .i64 op,.int .i64 x,.int .i64 y,.slice ao n cap] 51)) .u8 5 [op] (by unfold maxLen;simp) (fun z hz=>by simp at hz;subst hz;exact WalkArith.wf_u8 hop);have h2:=this.lift (base':=w.heap.size) (by simp);simpa using h2
 have HB:=hid hb0
 have HW:=hid hw0
 have hsz:=hbb.size
 clear hw0 hb0
 have hxa:=qE 9 x
 go_enter Tryz.func125,Tryz.ntmps125
 go_wp2_with fail
 try rw [Hwo.out]
 rw [<- HW.out]
 refine (zK _ _ Hs.out _).mono ?_
 rintro e w1 ⟨rfl,rfl⟩
 obtain ⟨hc0,hc1,hc2,hc3⟩:=B4.out
 go_wp2_with fail
 refine (yL x _ (by omega) (by omega)).mono ?_
 rintro e w3 ⟨v,rfl,hv,hb2⟩
 obtain ⟨ao1,cap1,rfl,hrd⟩:=hv.rd
 have hown2:=HB.out.below hb2 (qW8 _)
 have hsz2:=hb2.size
 clear hv
 go_wp2_with (first | (at_builtin;refine qA rfl (.tmp 32) (.tmp 36) 37 rfl 5 .u8 w.heap.size 1 Tryz.underlying37 qG _ _ rfl hown2 ao1 _ _ _ rfl hrd (by simp <;> omega) (by simp <;> omega) (by omega) ?_;intro v' w2 h3 h4 _) | (at_builtin;refine qA rfl (.tmp 37) (.tmp 38) 37 rfl 5 .u8 w.heap.size 1 Tryz.underlying37 qG _ _ rfl (h3.alloc _) _ 1 1 [0] rfl (Rd.built _ _ _ _ (by decide)) (by simp <;> omega) (by simp <;> omega) (by simp;have:=h4.size;omega) ?_;intro v3 w4 h5 h6 _))
 go_ret
 exact ⟨_,rfl,by simpa using h5,(((Bl.step hbb hb2).trans h4).alloc (by have:=h4.size;omega) _).trans h6⟩
theorem qP5 (op x y:Int) (ao:Option Addr) (n cap:Nat) (w:World) (hs:sh op=2) (hx:x=0 ∨ x=1 ∨ x=2) :
    Calls Tryz.prog 125 #[iv op x y ao n cap] w fun e w'=>∃ v,e=.returned v /\ Own 5 .u8 w.heap.size w' v (op :: [qOq x]) /\ Below w.heap.size w w':=by
 have Hs:=hid hs
 have hop:=vH (op:=op) (by rw [hs];decide)
 clear hs
 have hwo:IntKind.u8.wrap op=op:=by rw [IntKind.wrap_u8];omega
 have Hwo:=hid hwo
 clear hwo
 obtain ⟨w0,hw0⟩:∃ w0,w0=(w.alloc (.cells #[.int .i64 op,.int .i64 x,.int .i64 y,.slice ao n cap] 51)).alloc (.cells #[.int .u8 op] 5):=⟨_,rfl⟩
 have hbb:Below w.heap.size w w0:=by rw [hw0];exact Bl.alloc (Bl.alloc (Bl.refl w) _) _
 have B4:Hid (Box4 w0 w.heap.size op x y ao n cap):=by rw [hw0];exact (Box4.new w op x y ao n cap 51).below (Bl.alloc (Bl.refl _) _)
 have hb0:Own 5 .u8 w.heap.size w0 (.slice (some ⟨w.heap.size + 1,0,none⟩) 1 1) [op]:=by
  rw [hw0];have:=jK (w.alloc (.cells #[.int .i64 op,.int .i64 x,.int .i64 y,.slice ao n cap] 51)) .u8 5 [op] (by unfold maxLen;simp) (fun z hz=>by simp at hz;subst hz;exact WalkArith.wf_u8 hop);have h2:=this.lift (base':=w.heap.size) (by simp);simpa using h2
 have HB:=hid hb0
 have HW:=hid hw0
 have hsz:=hbb.size
 clear hw0 hb0
 go_enter Tryz.func125,Tryz.ntmps125
 go_wp2_with fail
 try rw [Hwo.out]
 rw [<- HW.out]
 refine (zK _ _ Hs.out _).mono ?_
 rintro e w1 ⟨rfl,rfl⟩
 obtain ⟨hc0,hc1,hc2,hc3⟩:=B4.out
 have hlt:=B4.out.lt
 rcases hx with rfl | rfl | rfl
 ·go_wp2_with (at_builtin;refine qA rfl (.tmp 14) (.tmp 20) 37 rfl 5 .u8 w.heap.size 1 Tryz.underlying37 qG _ _ rfl ((HB.out.alloc _).alloc _) _ 1 1 [64] rfl (Rd.built_at _ .u8 _ 64 (by decide) (by simp)) (by simp <;> omega) (by simp <;> omega) (by simp <;> omega) ?_;intro v' w2 h3 h4 _)
  go_ret;exact ⟨_,rfl,h3,((hbb.alloc hsz _).alloc (by simp <;> omega) _).trans h4⟩
 ·go_wp2_with (at_builtin;refine qA rfl (.tmp 14) (.tmp 20) 37 rfl 5 .u8 w.heap.size 1 Tryz.underlying37 qG _ _ rfl ((HB.out.alloc _).alloc _) _ 1 1 [127] rfl (Rd.built_at _ .u8 _ 127 (by decide) (by simp)) (by simp <;> omega) (by simp <;> omega) (by simp <;> omega) ?_;intro v' w2 h3 h4 _)
  go_ret;exact ⟨_,rfl,h3,((hbb.alloc hsz _).alloc (by simp <;> omega) _).trans h4⟩
 ·go_wp2_with (at_builtin;refine qA rfl (.tmp 14) (.tmp 20) 37 rfl 5 .u8 w.heap.size 1 Tryz.underlying37 qG _ _ rfl ((HB.out.alloc _).alloc _) _ 1 1 [126] rfl (Rd.built_at _ .u8 _ 126 (by decide) (by simp)) (by simp <;> omega) (by simp <;> omega) (by simp <;> omega) ?_;intro v' w2 h3 h4 _)
  go_ret;exact ⟨_,rfl,h3,((hbb.alloc hsz _).alloc (by simp <;> omega) _).trans h4⟩
theorem qP6 (op x y:Int) (ao:Option Addr) (n cap:Nat) (l:List Int) (w:World) (hs:sh op=4) (hx:0 <= x /\ x <= 1000) (hr:Rd .i64 w ao n cap l) (hi:∀ x ∈ l,0 <= x /\ x <= 1000) (hn:n <= 1000) :
    Calls Tryz.prog 125 #[iv op x y ao n cap] w fun e w'=>∃ v,e=.returned v /\ Own 5 .u8 w.heap.size w' v (op :: (qZ 9 n ++ (vQ l ++ qZ 9 x))) /\ Below w.heap.size w w':=by
 have Hs:=hid hs
 have hop:=vH (op:=op) (by rw [hs];decide)
 clear hs
 have hwo:IntKind.u8.wrap op=op:=by rw [IntKind.wrap_u8];omega
 have Hwo:=hid hwo
 clear hwo
 obtain ⟨w0,hw0⟩:∃ w0,w0=(w.alloc (.cells #[.int .i64 op,.int .i64 x,.int .i64 y,.slice ao n cap] 51)).alloc (.cells #[.int .u8 op] 5):=⟨_,rfl⟩
 have hbb:Below w.heap.size w w0:=by rw [hw0];exact Bl.alloc (Bl.alloc (Bl.refl w) _) _
 have B4:Hid (Box4 w0 w.heap.size op x y ao n cap):=by rw [hw0];exact (Box4.new w op x y ao n cap 51).below (Bl.alloc (Bl.refl _) _)
 have hb0:Own 5 .u8 (w.heap.size + 1) w0 (.slice (some ⟨w.heap.size + 1,0,none⟩) 1 1) [op]:=by
  rw [hw0];have:=jK (w.alloc (.cells #[.int .i64 op,.int .i64 x,.int .i64 y,.slice ao n cap] 51)) .u8 5 [op] (by unfold maxLen;simp) (fun z hz=>by simp at hz;subst hz;exact WalkArith.wf_u8 hop);simpa using this
 have HB:=hid hb0
 have HW:=hid hw0
 have hsz:=hbb.size
 clear hb0
 have hxa:=qE 9 x
 have Hi:=hid hi
 have Hx:=hid hr.len
 have Hr:=hid hr
 have hsz1:w.heap.size + 1 <= w0.heap.size:=by rw [hw0];simp
 clear hi hr
 clear hw0
 go_enter Tryz.func125,Tryz.ntmps125
 go_wp2_with fail
 try rw [Hwo.out]
 rw [<- HW.out]
 refine (zK _ _ Hs.out _).mono ?_
 rintro e w1 ⟨rfl,rfl⟩
 obtain ⟨hc0,hc1,hc2,hc3⟩:=B4.out
 go_wp2_with fail
 refine (yL (n:Int) _ (by omega) (by omega)).mono ?_
 rintro e w3 ⟨v,rfl,hv,hb2⟩
 obtain ⟨ao1,cap1,rfl,hrd⟩:=hv.rd
 have hown2:=HB.out.below hb2 (qW8 _)
 have hsz2:=hb2.size
 have hxn:=qE 9 (n:Int)
 have B43:=hid (B4.out.below hb2)
 have hbb3:=Bl.step hbb hb2
 clear hv hc0 hc1 hc2 hc3
 go_wp2_with (at_builtin;refine qA rfl (.tmp 42) (.tmp 47) 37 rfl 5 .u8 (w.heap.size + 1) 1 Tryz.underlying37 qG _ _ rfl hown2 ao1 _ _ _ rfl hrd (by simp <;> omega) (by simp <;> omega) (by omega) ?_;intro v4 w4 hv4 hb4 _;have hz4:=hid hb4;have Hv4:=hid hv4;clear hb4 hv4)
 have hbb4:Hid (Below w.heap.size w w4):=hid (hbb3.trans (hz4.out.mono (by omega)))
 go_loopw [3,4] (fun v i wr=>∃ k:Nat,k <= n /\ i=.int .i64 k /\ Own 5 .u8 (w.heap.size + 1) wr v (op :: qZ 9 n ++ vQ (l.take k)) /\ Below w.heap.size w wr /\ Box4 wr w.heap.size op x y ao n cap /\ w.heap.size + 1 <= wr.heap.size) (fun _ i _=>n - (intOf i).toNat)
 case atStart=>exact ⟨0,qXf _,rfl,by simpa [vQ] using Hv4.out,hbb4.out,B43.out.keep hz4.out (Nat.lt_succ_self _),by have:=hz4.out.size;omega⟩
 case round =>
  obtain ⟨k,hkn,rfl,hv,hb,hbx,hszr⟩:=hrel;by_cases hk:k < n
  ·obtain ⟨b,off,rfl,hc⟩:=(Hr.out.below hb).at (by omega)
   have hck:=hc k hk;have hkl:k < l.length:=by rw [Hx.out];exact hk
   obtain ⟨z,hzk⟩:∃ z,z=l.getD k 0:=⟨_,rfl⟩
   have hzb:0 <= z /\ z <= 1000:=by rw [hzk];exact Hi.out _ (by simp [List.getD,hkl])
   have hs:=qA3 hkl;rw [<- hzk] at hck hs;have Hs':=hid hs
   have hle:(op :: qZ 9 (n:Int) ++ vQ (l.take k)).length <= 20000:=by
    have h1:=uO (l.take k);have h3:(l.take k).length <= k:=List.length_take_le _ _;simp only [List.cons_append,qXg,qW7];omega
   have hxl:(qZ 9 z).length <= 10:=qE 9 z
   obtain ⟨ys,hys⟩:∃ ys,ys=op :: qZ 9 (n:Int) ++ vQ (l.take k):=⟨_,rfl⟩
   rw [<- hys] at hv hle;have Hys:=hid hys;clear hc hzk hs hys;obtain ⟨hc0,hc1,hc2,hc3⟩:=hbx;have Hbx:Hid (Box4 wr w.heap.size op x y (some ⟨b,off,none⟩) n cap):=hid ⟨hc0,hc1,hc2,hc3⟩;go_wp2_with fail;refine (yL z _ (by omega) (by omega)).mono ?_;rintro e w5 ⟨v1,rfl,hv1,hb1⟩;obtain ⟨ao5,cap5,rfl,hr5⟩:=hv1.rd;have hv':=hv.below hb1 (qW8 _);have hsz5:=hb1.size
   obtain ⟨m1,hm1⟩:∃ m1,m1=(qZ 9 z).length:=⟨_,rfl⟩
   rw [<- hm1] at hr5 hxl ⊢;have Hm1:=hid hm1;clear hm1 hv hv1
   go_wp2_with (at_builtin;refine qA rfl (.tmp 56) (.tmp 63) 37 rfl 5 .u8 (w.heap.size + 1) 1 Tryz.underlying37 qG _ _ rfl hv' ao5 _ cap5 _ rfl hr5 (by omega) (by omega) (by omega) ?_;intro v' w2 h3 h4 _)
   go_roundw
   case rel =>
    refine ⟨k + 1,by omega,by go_num,?_,Bl.step hb hb1 |>.trans (h4.mono (by omega)),(Hbx.out.below hb1).keep h4 (Nat.lt_succ_self _),by have:=h4.size;omega⟩;rw [Hs'.out,qC3,<- qXe,<- Hys.out];exact h3
   case measure=>simp [intOf];omega
  ·have e0:k=n:=by omega
   subst e0;have hl:l.take k=l:=qW9 (by rw [Hx.out];omega);rw [hl] at hv;have Hv:=hid hv;obtain ⟨hc0,hc1,hc2,hc3⟩:=hbx;have Hbx:Hid (Box4 wr w.heap.size op x y ao k cap):=hid ⟨hc0,hc1,hc2,hc3⟩
   have hle:(op :: qZ 9 (k:Int) ++ vQ l).length <= 20000:=by
    have h1:=uO l;rw [Hx.out] at h1;simp only [List.cons_append,qXg,qW7];omega
   clear hl hv;go_wp2_with fail;refine (yL x _ (by omega) (by omega)).mono ?_;rintro e w5 ⟨v1,rfl,hv1,hb1⟩;obtain ⟨ao5,cap5,rfl,hr5⟩:=hv1.rd;have hv':=Hv.out.below hb1 (qW8 _);have hsz5:=hb1.size;clear hv1
   go_wp2_with (at_builtin;refine qA rfl (.tmp 65) (.tmp 69) 37 rfl 5 .u8 (w.heap.size + 1) 1 Tryz.underlying37 qG _ _ rfl hv' ao5 _ cap5 _ rfl hr5 (by omega) (by omega) (by omega) ?_;intro v' w2 h3 h4 _)
   go_ret;refine ⟨_,rfl,?_,Bl.step hb hb1 |>.trans (h4.mono (by omega))⟩;have h5:=h3.lift (base':=w.heap.size) (by omega);simpa using h5
theorem qP7 (op x y:Int) (ao:Option Addr) (n cap:Nat) (w:World) (hs:sh op=6) (hx:0 <= x /\ x <= 3) (hy:0 <= y /\ y <= 4294967295) :
    Calls Tryz.prog 125 #[iv op x y ao n cap] w fun e w'=>∃ v,e=.returned v /\ Own 5 .u8 w.heap.size w' v (op :: (qZ 9 x ++ qZ 9 y)) /\ Below w.heap.size w w':=by
 have Hs:=hid hs
 have hop:=vH (op:=op) (by rw [hs];decide)
 have hxa:=qE 9 x
 have hxb:=qE 9 y
 clear hs
 have hwo:IntKind.u8.wrap op=op:=by rw [IntKind.wrap_u8];omega
 have Hwo:=hid hwo
 clear hwo
 obtain ⟨w0,hw0⟩:∃ w0,w0=(w.alloc (.cells #[.int .i64 op,.int .i64 x,.int .i64 y,.slice ao n cap] 51)).alloc (.cells #[.int .u8 op] 5):=⟨_,rfl⟩
 have hbb:Below w.heap.size w w0:=by rw [hw0];exact Bl.alloc (Bl.alloc (Bl.refl w) _) _
 have B4:Hid (Box4 w0 w.heap.size op x y ao n cap):=by rw [hw0];exact (Box4.new w op x y ao n cap 51).below (Bl.alloc (Bl.refl _) _)
 have Hb0:Hid (Rd .u8 w0 (some ⟨w.heap.size + 1,0,none⟩) 1 1 [op]):=by
  rw [hw0];have:=Rd.built (w.alloc (.cells #[.int .i64 op,.int .i64 x,.int .i64 y,.slice ao n cap] 51)) .u8 5 op (WalkArith.wf_u8 hop);exact hid (by simpa using this)
 have HW:=hid hw0
 clear hw0
 go_enter Tryz.func125,Tryz.ntmps125
 go_wp2_with fail
 try rw [Hwo.out]
 rw [<- HW.out]
 refine (zK _ _ Hs.out _).mono ?_
 rintro e w1 ⟨rfl,rfl⟩
 go_wp2_with fail
 refine qD 10 (by kernel_rfl) [Is (.slice (some ⟨w.heap.size + 1,0,none⟩) 1 1),Is ?vB1,Is (.int .i64 x),Is (.int .u64 x),jM .u8 (qZ 9 x),jW 5 .u8 w0.heap.size ([op] ++ qZ 9 x),Is ?vB6,Is (.int .i64 y),Is (.int .u64 y),jM .u8 (qZ 9 y)] [0,1,2,3,4,5,6,7,8,9] rfl (by kernel_rfl) rfl (by kernel_rfl) ?hopB ?hstB ?hendB
 case hopB =>
  refine ⟨rq (Is (.slice (some ⟨w.heap.size + 1,0,none⟩) 1 1)) none [] [(3,.slice (some ⟨w.heap.size + 1,0,none⟩) 1 1)] ⟨⟨by kernel_rfl,rfl⟩,trivial⟩ ?_,?_⟩
  ·intro a w1 hC e3
   refine Or.inl ⟨.slice (some ⟨w.heap.size + 1,0,none⟩) 1 1,?_,rfl⟩;go_simp
  refine ⟨rq (Is ?vB1) none [] [(1,.pointer (some ⟨w.heap.size,0,none⟩))] ⟨⟨by kernel_rfl,rfl⟩,trivial⟩ ?_,?_⟩
  ·intro a w1 hC e1
   refine Or.inl ⟨_,?_,rfl⟩;go_simp
   first | (go_bits;rfl) | rfl | (rw [if_pos (by omega)])
  refine ⟨rq (Is (.int .i64 x)) none [(some 74,Is ?vB1)] [] trivial ?_,?_⟩
  ·intro a w1 hC (h1:a.tmps.getD 74 undef=_)
   refine Or.inl ⟨.int .i64 x,?_,rfl⟩;have b4:=B4.out.below hC;have hcw0:=b4.c1;clear b4;go_simp
  refine ⟨rq (Is (.int .u64 x)) none [(some 75,Is (.int .i64 x))] [] trivial ?_,?_⟩
  ·intro a w1 hC (h2:a.tmps.getD 75 undef=_)
   refine Or.inl ⟨.int .u64 x,?_,rfl⟩;go_simp;rw [IntKind.wrap_u64];omega
  refine ⟨rq (jM .u8 (qZ 9 x)) none [(some 76,Is (.int .u64 x))] [] trivial ?_,?_⟩
  ·intro a w1 hC (h3:a.tmps.getD 76 undef=_)
   refine Or.inr (Or.inl ⟨124,#[.int .u64 x],?_,?_⟩)
   ·go_simp
   ·refine (yL x w1 (by omega) (by omega)).mono ?_
    rintro e w2 ⟨vv,rfl,hown,hbel⟩;obtain ⟨ao1,cap1,rfl,hrd⟩:=hown.rd;exact ⟨_,rfl,⟨ao1,cap1,rfl,hrd⟩,hbel⟩
  refine ⟨rq (jW 5 .u8 w0.heap.size ([op] ++ qZ 9 x)) none [(some 73,Is (.slice (some ⟨w.heap.size + 1,0,none⟩) 1 1)),(some 77,jM .u8 (qZ 9 x)),(some 77,jM .u8 (qZ 9 x))] [] trivial ?_,?_⟩
  ·intro a w1 hC (h0:a.tmps.getD 73 undef=_) h4 _
   obtain ⟨ao1,cap1,e4,hrd⟩:=h4;have e4:a.tmps.getD 77 undef=_:=e4
   cases ao1 with
   | none =>
     have:=hrd.nil rfl;have:=hrd.le;have:=qBz 9 x;have:(qZ 9 x).length=0:=by omega
     exact absurd (List.length_eq_zero_iff.1 this) (qBz 9 x)
   | some ad =>
     obtain ⟨v1,w2,hrun,hown,hbel⟩:=qC4 (P:=Tryz.prog) (w:=w1) 37 37 5 .u8 1 Tryz.underlying37 qG _ _ _ _ _ _ _ (Hb0.out.below hC) hrd (List.length_pos_iff.2 (qBz 9 x)) (by omega) (by omega);refine Or.inr (Or.inr ⟨v1,w2,?_,hown.lift hC.size,hbel⟩);exact qC6 rfl h0 e4 hrun
  refine ⟨rq (Is ?vB6) none [] [(1,.pointer (some ⟨w.heap.size,0,none⟩))] ⟨⟨by kernel_rfl,rfl⟩,trivial⟩ ?_,?_⟩
  ·intro a w1 hC e1
   refine Or.inl ⟨_,?_,rfl⟩;go_simp
   first | (go_bits;rfl) | rfl | (rw [if_pos (by omega)])
  refine ⟨rq (Is (.int .i64 y)) none [(some 79,Is ?vB6)] [] trivial ?_,?_⟩
  ·intro a w1 hC (h6:a.tmps.getD 79 undef=_)
   refine Or.inl ⟨.int .i64 y,?_,rfl⟩;have b4:=B4.out.below hC;have hcw0:=b4.c2;clear b4;go_simp
  refine ⟨rq (Is (.int .u64 y)) none [(some 80,Is (.int .i64 y))] [] trivial ?_,?_⟩
  ·intro a w1 hC (h7:a.tmps.getD 80 undef=_)
   refine Or.inl ⟨.int .u64 y,?_,rfl⟩;go_simp;rw [IntKind.wrap_u64];omega
  refine ⟨rq (jM .u8 (qZ 9 y)) none [(some 81,Is (.int .u64 y)),(some 78,jW 5 .u8 w0.heap.size ([op] ++ qZ 9 x))] [] trivial ?_,?_⟩
  ·intro a w1 hC (h8:a.tmps.getD 81 undef=_) h5
   refine Or.inr (Or.inl ⟨124,#[.int .u64 y],?_,?_⟩)
   ·go_simp
   ·refine (yL y w1 (by omega) (by omega)).mono ?_
    rintro e w2 ⟨vv,rfl,hown,hbel⟩;obtain ⟨ao1,cap1,rfl,hrd⟩:=hown.rd;exact ⟨_,rfl,⟨ao1,cap1,rfl,hrd⟩,hbel⟩
  exact trivial
 case hstB=>exact ⟨qB.is _,qB.is _,qB.is _,qB.is _,qB.rd _ _,qB.own _ _ _ _,qB.is _,qB.is _,qB.is _,qB.rd _ _,trivial⟩
 case hendB =>
  intro w1 hC;rintro _ rfl;rintro _ rfl;rintro _ rfl;rintro _ rfl;intro x4 h4;intro x5 h5;rintro _ rfl;rintro _ rfl;rintro _ rfl;intro x9 h9;obtain ⟨aoq,capq,rfl,hrq⟩:=h9;simp only [xV,Act.put,qXj,qXp,qXo,qXm,qXv];have hown2:=Own.lift h5 hbb.size;have sz:w.heap.size <= w1.heap.size:=qXk hbb.size hC.size;clear h5
  go_wp2_with (at_builtin;refine qA rfl (.tmp 78) (.tmp 82) 37 rfl 5 .u8 w.heap.size 1 Tryz.underlying37 qG _ _ rfl hown2 aoq _ capq _ rfl hrq (by simp;omega) (by simp;omega) sz ?_;intro v2 w2 h3 h4 _)
  go_ret;refine ⟨_,rfl,?_,(Bl.step hbb hC).trans h4⟩;simpa using h3
theorem qGl (op x y:Int) (ao:Option Addr) (n cap:Nat) (l:List Int) (w:World) (h:uN op x y l=true) (hx:-9223372036854775808 <= x /\ x <= 9223372036854775807) (hr:Rd .i64 w ao n cap l) :
    Calls Tryz.prog 125 #[iv op x y ao n cap] w fun e w'=>∃ v,e=.returned v /\ Own 5 .u8 w.heap.size w' v (uW op x y l) /\ Below w.heap.size w w':=by
 obtain ⟨h1,h2,h3⟩:=uA h
 have hb:=yB op
 unfold uW
 obtain ⟨s,hs⟩:∃ s,sh op=s:=⟨_,rfl⟩
 rw [hs] at h1 h2 h3 hb ⊢
 have e:s=0 ∨ s=1 ∨ s=2 ∨ s=3 ∨ s=4 ∨ s=5 ∨ s=6 ∨ s=7 ∨ s=8 ∨ s=9:=by omega
 rcases e with rfl | rfl | rfl | rfl | rfl | rfl | rfl | rfl | rfl | rfl
 ·simp [q9] at h1
 ·exact qP1 op x y ao n cap w hs
 ·exact qP5 op x y ao n cap w hs (by simpa [q9] using h1)
 ·exact qP3 op x y ao n cap w hs (by simpa [q9] using h1)
 ·have hl:l.length <= 50 /\ ∀ x ∈ l,0 <= x /\ x <= 1000:=by simpa [zY,idx] using h3
  refine (qP6 op x y ao n cap l w hs (by simpa [q9] using h1) hr hl.2 (by rw [<- hr.len];omega)).mono ?_;rintro e w' ⟨v,rfl,hv,hb⟩;refine ⟨v,rfl,?_,hb⟩;rw [<- hr.len] at hv;exact hv
 ·exact qP4 op x y ao n cap w hs (by simpa [q9] using h1)
 ·exact qP7 op x y ao n cap w hs (by simpa [q9] using h1) (by simpa [zU] using h2)
 ·exact qP2 op x y ao n cap w hs
 ·exact qGk op x y ao n cap w 8 hs (.inl rfl) hx
 ·exact qGk op x y ao n cap w 9 hs (.inr rfl) hx
open Go.RowKit
theorem uP (ao ao':Option Addr) (n n' cap cap':Nat) (l l':List Int) (t:Bool) (h:(l == l')=t) (w:World) (hr:Rd .i64 w ao n cap l) (hr':Rd .i64 w ao' n' cap' l') :
    Calls Tryz.prog 35 #[.slice ao n cap,.slice ao' n' cap'] w fun e w'=>e=.returned (.bool t) /\ Below w.heap.size w w':=by
 have hn63:n <= 9223372036854775807:=by have h1:=hr.le;have h2:=hr.max;unfold maxLen at h2;omega
 have hn63':n' <= 9223372036854775807:=by have h1:=hr'.le;have h2:=hr'.max;unfold maxLen at h2;omega
 have hx:=hr.len
 have hx':=hr'.len
 have Hx:=hid hx
 have Hx':=hid hx'
 have H:=hid h
 clear h hx hx'
 by_cases e:n=n'
 ·subst e
  go_enter Tryz.func35,Tryz.ntmps35;go_wp2;go_loopw [5,13] (fun _x i wr=>∃ k:Nat,k <= n /\ i=.int .i64 k /\ Hid (∀ i,i < k -> l.getD i 0=l'.getD i 0) /\ Below w.heap.size w wr) (fun _ i _=>n - (intOf i).toNat)
  case atStart=>exact ⟨0,qXf _,rfl,fun i hi=>by omega,qXh _ _⟩
  case round =>
   obtain ⟨k,hkn,rfl,Hall,hb⟩:=hrel;by_cases hk:k < n
   ·obtain ⟨b,off,rfl,hc⟩:=(hr.below hb).at (by omega)
    obtain ⟨b',off',rfl,hc'⟩:=(hr'.below hb).at (by omega)
    have hck:=hc k hk;have hck':=hc' k hk
    obtain ⟨x,hxk⟩:∃ x,x=l.getD k 0:=⟨_,rfl⟩
    obtain ⟨x',hxk'⟩:∃ x,x=l'.getD k 0:=⟨_,rfl⟩
    rw [<- hxk] at hck;rw [<- hxk'] at hck';have Hxk:=hid hxk;have Hxk':=hid hxk';clear hc hxk hc' hxk';by_cases e:x=x'
    ·subst e
     go_wp2_with fail;go_quiet (fail);go_wp2_with fail;go_roundw
     case rel =>
      refine ⟨k + 1,by omega,by go_num,?_,hb.trans (qW _ _ _)⟩;show ∀ i,i < k + 1 -> l.getD i 0=l'.getD i 0;intro i hi;by_cases e:i=k
      ·rw [e,<- Hxk.out,<- Hxk'.out]
      ·exact Hall.out i (by omega)
     case measure=>simp [intOf];omega
    ·have ex:(x != x')=true:=by simp [e]
     go_wp2_with fail;go_quiet (fail);go_wp2_with fail;go_ret;refine ⟨qR H.out ?_,hb.trans (qW _ _ _)⟩;symm;rw [beq_eq_false_iff_ne];intro h;exact e (by rw [Hxk.out,Hxk'.out,h])
   ·have e0:k=n:=by omega
    subst e0;go_wp2_with fail;go_ret;refine ⟨qR H.out ?_,hb⟩;symm;rw [beq_iff_eq];refine List.ext_getElem (by rw [Hx.out,Hx'.out]) fun i hi hi'=>?_;have:=Hall.out i (by rw [<- Hx.out];exact hi);simpa [List.getD,hi,hi'] using this
 ·have e':((n:Int) != (n':Int))=true:=by simp;omega
  go_enter Tryz.func35,Tryz.ntmps35;go_wp2;go_ret;refine ⟨qR H.out ?_,qXh _ _⟩;symm;rw [beq_eq_false_iff_ne];intro h;exact e (by rw [<- Hx.out,<- Hx'.out,h])
theorem qV7 (op a b:Int) (ao:Option Addr) (n cap:Nat) (l:List Int) (op' a' b':Int) (ao':Option Addr) (n' cap':Nat) (l':List Int) (t:Bool) (h:eqI op a b l op' a' b' l'=t) (w:World) (hr:Rd .i64 w ao n cap l) (hr':Rd .i64 w ao' n' cap' l') :
    Calls Tryz.prog 100 #[iv op a b ao n cap,iv op' a' b' ao' n' cap'] w fun e w'=>e=.returned (.bool t) /\ Below w.heap.size w w':=by
 unfold eqI at h
 obtain ⟨t4,h4⟩:∃ t4,(l == l')=t4:=⟨_,rfl⟩
 rw [h4] at h
 have H4:=hid h4
 have H:=hid h
 clear h h4
 cases h1:(op == op') <;> cases h2:(a == a') <;> cases h3:(b == b')
 all_goals
  go_enter Tryz.func100,Tryz.ntmps100
  go_wp2_with (go_at_call 35;refine (uP _ _ _ _ _ _ _ _ _ H4.out _ (hr.below (Bl.alloc (Bl.alloc (Bl.refl _) _) _)) (hr'.below (Bl.alloc (Bl.alloc (Bl.refl _) _) _))).mono ?_;rintro e w' ⟨rfl,hb⟩)
  go_ret
  first
   | exact ⟨qR H.out (by rw [h1,h2,h3];simp),Bl.step (Bl.alloc (Bl.alloc (Bl.refl _) _) _) hb⟩
   | exact ⟨qR H.out (by rw [h1,h2,h3];simp),Bl.alloc (Bl.alloc (Bl.refl _) _) _⟩
end Go.Proofs.YtbkofpljchkkaaaGreat
