/- MatchInner: the walk. -/
import Derived.Test.YtfambbpggodlkaaCodeCat
import Derived.Test.YtfambbpggodlkaaCodeMathC
import Derived.Test.YtfambbpggodlkaaCodeBody
import Derived.Test.YtfambbpggodlkaaInsSlice
import Derived.Deep.RegionLaw
import Derived.IntWalk
namespace Go.Proofs.Ytfambbpggodlkaa
open Go.RowKit

theorem stepL_append {w : World} {ops : Array Oper} {o : Oper} {a : Act} {K : Act → World → Prop} {Q : Exit → Act → World → Prop} {E' : Prop} (hgd : o.guard = none) (s x : Operand)
    (ho : o.op = .call { callee := .builtin .append, args := #[s, x], argTypes := #[22, 22] })
    (B : Nat) (v : Value) (is js : List Ins) (hs : a.eval s = v) (hown : OwnL B w v is) (ad : Addr) (n cap : Nat) (hx : a.eval x = .slice (some ad) n cap) (hr : RdP w (fun a => a.block < B) (some ad) n cap js) (hl : is.length + n ≤ 1000) (hB : B ≤ w.heap.size)
    (h : ∀ v' w', OwnL B w' v' (is ++ js) → Below B w w' → K (a.put o.dst v') w') : if Region.wanted o (yielded ops a.tmps) = true then Oper.wp Try.prog o a w K Q else E' := by
  obtain ⟨v', w', hrun, h1, h2⟩ := runL_append o.type hown hr hl hB
  have hlt : ∀ b, v.ownBlock = some b → B ≤ b := by
    obtain ⟨_, _, hrow, _⟩ := hown
    exact fun b hb => (hrow.lt b hb).1
  rw [if_pos (by simp [Region.wanted, hgd])]
  unfold Oper.wp
  rw [exec_append ho hs hx hrun]
  exact h v' w' h1 ((Below.refl _ _).grown h2 hB hlt)

structure Box3 (w : World) (p : Nat) (x y z : Int) : Prop where
  c0 : w.cell? ⟨p, 0, none⟩ = some (.int .i64 x)
  c1 : w.cell? ⟨p, 1, none⟩ = some (.int .i64 y)
  c2 : w.cell? ⟨p, 2, none⟩ = some (.int .i64 z)
theorem Box3.new (w : World) (x y z : Int) (T : TypeId) : Box3 (w.alloc (.cells #[.int .i64 x, .int .i64 y, .int .i64 z] T)) w.heap.size x y z := by
  constructor <;> simp [World.cell?_alloc_at]
theorem Box3.below {w w' : World} {p : Nat} {x y z : Int} (h : Box3 w p x y z) (hb : Below w.heap.size w w') : Box3 w' p x y z := by
  have hlt : p < w.heap.size := World.block_lt_of_cell? w _ h.c0
  exact ⟨(hb.cell (p := ⟨p, 0, none⟩) hlt).trans h.c0, (hb.cell (p := ⟨p, 1, none⟩) hlt).trans h.c1, (hb.cell (p := ⟨p, 2, none⟩) hlt).trans h.c2⟩
def IsOwnL (B : Nat) (is : List Ins) : Value → World → Prop := fun v w => OwnL B w v is
theorem Stays.ownL (B : Nat) (is : List Ins) : Stays (IsOwnL B is) := fun _ _ _ h hb => OwnL.below h hb (Nat.le_refl _)
theorem opsI_cut (is : List Ins) (m l : Nat) : ((opsI is).take m).drop l = opsI ((is.take m).drop l) := by simp [opsI, List.map_take, List.map_drop]
theorem opsI_out (is : List Ins) (pa b : Nat) : (opsI is).take pa ++ (opsI is).drop b = opsI (is.take pa ++ is.drop b) := by simp [opsI, List.map_take, List.map_drop]

set_option maxRecDepth 100000 in
set_option maxHeartbeats 16000000 in
theorem matchInner_walk (ao : Option Addr) (n cap : Nat) (is : List Ins) (C : Addr → Prop) (wh : Int) (w : World) (hr : RdP w C ao n cap is) (hwh : -9223372036854775808 ≤ wh ∧ wh ≤ 9223372036854775807) :
    Calls Try.prog 8 #[.slice ao n cap, .int .i64 wh] w fun e w' => e = .returned (.bool true) ∧ Below w.heap.size w w' := by
  have Hr := hid hr
  clear hr
  go_enter Try.func8, Try.ntmps8
  go_wp2_with fail
  refine (begun6_to _).mono ?_
  rintro e w0 ⟨rfl, hb⟩
  have Hr0 := hid (Hr.out.below hb)
  have HB0 := hid hb
  have HOK := hid Hr0.out.okAll
  clear hb Hr
  go_wp2_with fail
  refine (bodyN_to 60 60 rfl (by decide) C ao n cap is w0 Hr0.out).mono ?_
  rintro e w1 ⟨v, rfl, hown, hb⟩
  have HB1 := hid (Bl.step HB0.out hb)
  obtain ⟨IL, hIL⟩ : ∃ IL, IL = (is.take 60).map cutI := ⟨_, rfl⟩
  have hl : IL.length ≤ 60 := by rw [hIL]; simp; omega
  have hokL : ∀ I ∈ IL, okI I := by
    intro I hI
    rw [hIL] at hI
    obtain ⟨J, hJ, rfl⟩ := List.mem_map.1 hI
    exact cutI_ok (HOK.out J (List.mem_of_mem_take hJ))
  rw [← hIL] at hown
  obtain ⟨ao1, cap1, rfl, hr1⟩ := hown.rd hokL
  obtain ⟨n1, hn1⟩ : ∃ n1, n1 = IL.length := ⟨_, rfl⟩
  rw [← hn1] at hr1 hl ⊢
  have HR1 := hid hr1
  have HN1 := hid hn1
  have HOKL := hid hokL
  clear hb hokL hIL hown hr1 Hr0 HB0 hn1 HOK
  go_wp2_with fail
  refine (match_to _ ao1 n1 cap1 IL w1 HR1.out).mono ?_
  rintro e w2 ⟨v2, rfl, hv2, hb⟩
  have HR2 := hid (HR1.out.below hb)
  have HB2 := hid (Bl.step HB1.out hb)
  have hsz2 := hb.size
  obtain ⟨bo, bc, rfl, p1, p2, p3⟩ := hv2.shape
  obtain ⟨o, ho⟩ : ∃ o, o = fits (opsI IL) := ⟨_, rfl⟩
  rw [← ho] at hv2 p1 p3 ⊢
  have HO := hid ho
  have HV2 := hid hv2
  have P3 := hid p3
  clear hb hv2 ho p3 HR1 HB1
  cases o with
  | none =>
    simp only [Option.isSome_none, Option.getD_none, List.map_nil, List.length_nil]
    go_wp2_with fail
    go_ret
    exact ⟨rfl, HB2.out⟩
  | some bl =>
    have HF := hid (fits_iff.1 HO.out.symm)
    simp only [Option.isSome_some, Option.getD_some, List.length_map] at HV2 P3 p1 ⊢
    obtain ⟨bn, hbn⟩ : ∃ bn, bn = bl.length := ⟨_, rfl⟩
    rw [← hbn] at HV2 P3 p1 ⊢
    have HBN := hid hbn
    have hb60 : bn ≤ 300 := by
      have h1 := HF.out.inv.few
      have h2 := HF.out.len
      simp only at h1
      omega
    clear hbn HO
    by_cases hz : bn = 0
    · subst hz
      go_wp2_with fail
      go_ret
      exact ⟨rfl, HB2.out⟩
    · by_cases hw0 : wh < 0
      · have hz' : ((bn : Int) == 0) = false := by simp; omega
        go_wp2_with fail
        go_ret
        exact ⟨rfl, HB2.out⟩
      · obtain ⟨q, rfl⟩ := Int.eq_ofNat_of_zero_le (show 0 ≤ wh by omega)
        have hz' : ((bn : Int) == 0) = false := by simp; omega
        obtain ⟨k, hk⟩ : ∃ k, k = q % bn := ⟨_, rfl⟩
        have hkb : k < bn := by rw [hk]; exact Nat.mod_lt _ (by omega)
        have q1 : (q : Int) % (bn : Int) = (k : Int) := by rw [hk]; simp
        obtain ⟨gb, rfl⟩ := P3.out (by omega)
        have hkl : k < bl.length := by rw [← HBN.out]; exact hkb
        obtain ⟨c0, c1, c2, _, _⟩ := blk_cells HV2.out hkl
        have hcl := HF.out.closed k hkl
        rw [opsI_len, ← HN1.out] at hcl
        obtain ⟨pa, ha⟩ := Int.eq_ofNat_of_zero_le hcl.1
        obtain ⟨e, he⟩ := Int.eq_ofNat_of_zero_le (show 0 ≤ (bl.getD k default).en by omega)
        obtain ⟨els, hels⟩ : ∃ els, els = (bl.getD k default).els := ⟨_, rfl⟩
        have hels1 : els = -1 ∨ 0 ≤ els := by
          rcases HF.out.inv.els k hkl with z | z
          · left; rw [hels]; exact z
          · right; rw [hels]; simp only at z; omega
        obtain ⟨i1, i2, i3⟩ := inner HF.out hkl ha he
        rw [← hels] at c1 i2 i3
        rw [ha] at c0 hcl
        rw [he] at c2 hcl
        rw [if_neg (by omega)] at c2
        have hae : pa < e := by omega
        have hen : e < n1 := by omega
        rw [opsI_out] at i1
        have HOUT := hid i1
        have HIN : Hid ((els = -1 → (fits (((opsI IL).take e).drop (pa + 1))).isSome = true) ∧ ∀ l : Nat, els = (l : Int) → pa < l ∧ l < e ∧ (fits (((opsI IL).take l).drop (pa + 1))).isSome = true ∧ (fits (((opsI IL).take e).drop (l + 1))).isSome = true) := hid ⟨i2, i3⟩
        have HJOK : Hid (∀ I ∈ IL.take pa ++ IL.drop (e + 1), okI I) := hid (fun I hI => by
          rcases List.mem_append.1 hI with z | z
          · exact HOKL.out I (List.mem_of_mem_take z)
          · exact HOKL.out I (List.mem_of_mem_drop z))
        have g1 : ¬ ((pa : Int) < 0) := by omega
        have g2 : ¬ ((e : Int) ≤ (pa : Int)) := by omega
        have g3 : ¬ ((n1 : Int) ≤ (e : Int)) := by omega
        obtain ⟨bg, off, _, _, _, rfl, hrest⟩ := HR2.out.cell pa (by omega)
        clear hrest
        clear hk hcl ha he hels i1 i2 i3 hw0 hz hkl
        obtain ⟨X, hX⟩ : ∃ X, X = w2.heap.size := ⟨_, rfl⟩
        have HX3 := Box3.new w2 pa els e 32
        have hal := Bl.alloc (Bl.refl w2) (.cells #[.int .i64 pa, .int .i64 els, .int .i64 e] 32)
        rw [← hX] at HX3
        have HXE := hid hX
        clear hX
        have HX := hid HX3
        have HR4 := hid ((HR2.out.below hal).weak (C' := fun ad => ad.block < (w2.alloc (.cells #[.int .i64 pa, .int .i64 els, .int .i64 e] 32)).heap.size) (fun ad h => by have := hal.size; exact Nat.lt_of_lt_of_le h (by omega)))
        have HBB4 := hid (Bl.step HB2.out hal)
        clear hal HX3 HR2 HB2 HV2 P3
        go_wp2_with fail
        rw [← HXE.out]
        generalize w2.alloc (.cells #[.int .i64 pa, .int .i64 els, .int .i64 e] 32) = w4 at HX HR4 HBB4 ⊢
        have hcle := HR4.out.le
        have HCUT1 := hid (run_cut_h 22 elem_i size_i (some ⟨bg, off, none⟩) n1 cap1 (pa : Int) pa rfl (by omega))
        obtain ⟨co, hco⟩ : ∃ co, cutAt (some ⟨bg, off, none⟩) (e + 1) cap1 4 = some co := by
          unfold cutAt
          split <;> exact ⟨_, rfl⟩
        have hcut2 := run_cut_l 22 elem_i size_i (some ⟨bg, off, none⟩) n1 cap1 ((e : Int) + 1) (e + 1) (by omega) (by omega)
        have HU1 := hid (HR4.out.upto pa (by omega))
        have hu2 := HR4.out.cut (e + 1) n1 (by omega) (Nat.le_refl _)
        rw [List.take_of_length_le (by rw [HN1.out]; exact Nat.le_refl _), hco] at hu2
        obtain ⟨cn, hcn⟩ : ∃ cn, cn = n1 - (e + 1) := ⟨_, rfl⟩
        obtain ⟨cc, hcc⟩ : ∃ cc, cc = cap1 - (e + 1) := ⟨_, rfl⟩
        rw [← hcn, ← hcc] at hu2
        rw [hco, ← hcn, ← hcc] at hcut2
        have hcn60 : cn ≤ 60 := by omega
        have HU2 := hid hu2
        have HCUT2 := hid hcut2
        clear hcut2 hu2 hco hcn hcc c0 c1 c2 p1 p2 g1 g2 g3 q1 hz'
        obtain ⟨d0, d1, d2⟩ := HX.out
        have hcut1 := HCUT1.out
        have hcut2 := HCUT2.out
        have hew : IntKind.i64.wrap ((e : Int) + 1) = (e : Int) + 1 := IntWalk.i64_in _ (by omega)
        go_region_law (first
          | (refine stepL_append rfl (.const (.slice none 0 0)) (.tmp 72) rfl w4.heap.size _ [] (IL.take pa) rfl (OwnL.nil _ _) ⟨bg, off, none⟩ pa cap1 rfl (HU1.out.below (Bl.refl w4).drew) (by simp; omega) (Nat.le_refl _) ?_; intro v5 w5 o5 b5
             rw [List.nil_append] at o5
             have HO5 := hid o5
             have HC5 := hid ((Bl.refl w4).drew.trans b5)
             obtain ⟨d50, d51, d52⟩ := HX.out.below HC5.out
             clear o5 b5)
          | (refine stepL_append rfl (.tmp 73) (.tmp 78) rfl w4.heap.size _ (IL.take pa) (IL.drop (e + 1)) rfl HO5.out co cn cc rfl (HU2.out.below HC5.out) (by rw [List.length_take]; omega) HC5.out.size ?_; intro v6 w6 o6 b6
             have HO6 := hid o6
             have HB6 := hid (HC5.out.trans b6)
             clear o6 b6)
          | (go_simp; go_at_call 13; obtain ⟨jo, jc, hje, hrj⟩ := (HO6.out.owned HB6.out.size).rd HJOK.out; rw [hje]; refine (match_to _ jo _ jc _ w6 hrj).mono ?_; rintro ee w7 ⟨v7, rfl, hv7, hb⟩; obtain ⟨vo7, vc7, rfl, _, _, _⟩ := hv7.shape; rw [HOUT.out]
             have HB7 := hid (Bl.step HB6.out hb)
             obtain ⟨vl, hvl⟩ : ∃ vl, vl = (List.map (bkC 0) ((fits (opsI (IL.take pa ++ IL.drop (e + 1)))).getD [])).length := ⟨_, rfl⟩
             rw [← hvl]
             clear hv7 hb hvl hje hrj)
          | fail)
        all_goals
          clear d0 d1 d2 hcut1 hcut2 hew
          clear d50 d51 d52
          have HR7 := hid (HR4.out.below HB7.out)
          obtain ⟨d0, d1, d2⟩ := HX.out.below HB7.out
          have HXX := HX.out
          clear HCUT1 HCUT2 HU1 HU2 HR4 HO5 HC5 HO6 HB6
          rcases Int.lt_or_le els 0 with hneg | hnn
          · have hneg' : ¬ (0 : Int) ≤ els := by omega
            have hcut := run_cut 22 elem_i size_i (some ⟨bg, off, none⟩) n1 cap1 ((pa : Int) + 1) (e : Int) (pa + 1) e (by omega) rfl (by omega) (by omega)
            have HU := hid (HR7.out.cut (pa + 1) e (by omega) (by omega))
            have hin := HIN.out.1 (by omega)
            have HF8 := hid (opsI_cut IL e (pa + 1) ▸ hin)
            obtain ⟨ko, hko⟩ : ∃ ko, ko = cutAt (some ⟨bg, off, none⟩) (pa + 1) cap1 4 := ⟨_, rfl⟩
            obtain ⟨kn, hkn⟩ : ∃ kn, kn = e - (pa + 1) := ⟨_, rfl⟩
            obtain ⟨kc, hkc⟩ : ∃ kc, kc = cap1 - (pa + 1) := ⟨_, rfl⟩
            rw [← hko, ← hkn, ← hkc] at hcut HU
            clear hko hkn hkc hin
            go_wp2_with fail
            refine (match_to _ ko kn kc _ w7 HU.out).mono ?_
            rintro ee w8 ⟨v8, rfl, hv8, hb⟩
            obtain ⟨_, _, rfl, _, _, _⟩ := hv8.shape
            rw [HF8.out]
            have HB8 := hid (Bl.step HB7.out hb)
            clear hv8 hb
            go_wp2_with fail
            go_ret
            exact ⟨rfl, Bl.step HBB4.out HB8.out⟩
          · obtain ⟨l, rfl⟩ := Int.eq_ofNat_of_zero_le hnn
            obtain ⟨hal, hle, f1, f2⟩ := HIN.out.2 l rfl
            have hcut := run_cut 22 elem_i size_i (some ⟨bg, off, none⟩) n1 cap1 ((pa : Int) + 1) (l : Int) (pa + 1) l (by omega) rfl (by omega) (by omega)
            have HU := hid (HR7.out.cut (pa + 1) l (by omega) (by omega))
            have HF8 := hid (opsI_cut IL l (pa + 1) ▸ f1)
            have HF9 := hid (opsI_cut IL e (l + 1) ▸ f2)
            obtain ⟨ko, hko⟩ : ∃ ko, ko = cutAt (some ⟨bg, off, none⟩) (pa + 1) cap1 4 := ⟨_, rfl⟩
            obtain ⟨kn, hkn⟩ : ∃ kn, kn = l - (pa + 1) := ⟨_, rfl⟩
            obtain ⟨kc, hkc⟩ : ∃ kc, kc = cap1 - (pa + 1) := ⟨_, rfl⟩
            rw [← hko, ← hkn, ← hkc] at hcut HU
            clear hko hkn hkc f1 f2
            go_wp2_with fail
            refine (match_to _ ko kn kc _ w7 HU.out).mono ?_
            rintro ee w8 ⟨v8, rfl, hv8, hb⟩
            obtain ⟨_, _, rfl, _, _, _⟩ := hv8.shape
            rw [HF8.out]
            have HB8 := hid (Bl.step HB7.out hb)
            have HR8 := hid (HR7.out.below hb)
            obtain ⟨vm, hvm⟩ : ∃ vm, vm = (List.map (bkC 0) ((fits (opsI ((IL.take l).drop (pa + 1)))).getD [])).length := ⟨_, rfl⟩
            rw [← hvm]
            clear d0 d1 d2
            obtain ⟨d0, d1, d2⟩ := HX.out.below HB8.out
            clear hv8 hb hcut HU hvm
            have hcut := run_cut 22 elem_i size_i (some ⟨bg, off, none⟩) n1 cap1 ((l : Int) + 1) (e : Int) (l + 1) e (by omega) rfl (by omega) (by omega)
            have HU := hid (HR8.out.cut (l + 1) e (by omega) (by omega))
            obtain ⟨ko2, hko⟩ : ∃ ko, ko = cutAt (some ⟨bg, off, none⟩) (l + 1) cap1 4 := ⟨_, rfl⟩
            obtain ⟨kn2, hkn⟩ : ∃ kn, kn = e - (l + 1) := ⟨_, rfl⟩
            obtain ⟨kc2, hkc⟩ : ∃ kc, kc = cap1 - (l + 1) := ⟨_, rfl⟩
            rw [← hko, ← hkn, ← hkc] at hcut HU
            clear hko hkn hkc
            go_wp2_with fail
            refine (match_to _ ko2 kn2 kc2 _ w8 HU.out).mono ?_
            rintro ee w9 ⟨v9, rfl, hv9, hb⟩
            obtain ⟨_, _, rfl, _, _, _⟩ := hv9.shape
            rw [HF9.out]
            have HB9 := hid (Bl.step HB8.out hb)
            clear hv9 hb
            go_wp2_with fail
            go_ret
            exact ⟨rfl, Bl.step HBB4.out HB9.out⟩
end Go.Proofs.Ytfambbpggodlkaa
