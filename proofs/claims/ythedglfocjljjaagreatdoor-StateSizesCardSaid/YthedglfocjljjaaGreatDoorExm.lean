/-
  The law's examples: exampleHolds.
-/
import Derived.Test.YthedglfocjljjaaGreatDoorRgg
import Derived.Test.YthedglfocjljjaaGreatDoorSmi
import Derived.Test.YthedglfocjljjaaGreatDoorSuc
import Derived.Test.YthedglfocjljjaaGreatDoorSur
import Derived.Test.YthedglfocjljjaaGreatDoorSrh
import Derived.Test.YthedglfocjljjaaGreatDoorRoc
namespace Go.Proofs.YthedglfocjljjaaGreatDoor
open Go.RowKit

def s0 : St := ⟨0, [⟨4, 2, List.replicate 8 zeroPx⟩], 2, 1, [⟨-1, -1, 1, 1⟩, ⟨0, 1, 9, 9⟩], [], false, [], 0, 0, []⟩
theorem x_chk : chkS s0 = 0 := by decide +kernel
theorem x_siz : sizS s0 = (1, 2) := by decide +kernel
theorem x_whole : wholeR s0 = ⟨0, 0, 1, 2⟩ := by unfold wholeR; rw [x_siz]
theorem x_dam : clipF s0 s0.dm = ([⟨0, 0, 1, 2⟩], 0) := by
  have h : Rgn.combP (fun x y => x && y) s0.dm [⟨0, 0, 1, 2⟩] = [⟨0, 0, 1, 2⟩] := Rgn.sameL_iff.1 (by decide +kernel)
  unfold clipF
  rw [if_neg (by rw [x_chk]; simp), x_whole, h]
  rfl
theorem x_inp : clipF s0 (inpL s0) = ([⟨0, 0, 1, 2⟩], 0) := by
  have h : Rgn.combP (fun x y => x && y) [⟨0, 0, 1, 2⟩] [⟨0, 0, 1, 2⟩] = [⟨0, 0, 1, 2⟩] := Rgn.sameL_iff.1 (by decide +kernel)
  unfold clipF
  rw [if_neg (by rw [x_chk]; simp), show inpL s0 = [wholeR s0] from rfl, x_whole, h]
  rfl
theorem x_has : hasC s0 = true := by
  unfold hasC
  rw [x_chk]
  rfl
theorem x_con : (conR s0).length = 2 := by
  unfold conR
  rw [if_pos x_has]
  obtain ⟨A, B, p, q, -, -, -, hS, -, -, hL, -⟩ := con_facts x_chk rfl
  rw [x_siz] at hS
  rw [hL, near_len]
  have h1 : (p : Int) = 1 := (congrArg Prod.fst hS).symm
  have h2 : (q : Int) = 2 := (congrArg Prod.snd hS).symm
  have h3 : p = 1 := by omega
  have h4 : q = 2 := by omega
  rw [h3, h4]
theorem x_m1 : mrgR s0 { zeroS with set := 2, sc := 4 } = (zeroS, 15) := by
  have h : chkS (mrgS s0 { zeroS with set := 2, sc := 4 }) = 15 := by decide +kernel
  unfold mrgR
  rw [h]
  rfl
theorem x_m2 : mrgR s0 zeroS = ({ s0 with dm := [] }, 0) := by
  have e : mrgS s0 zeroS = { s0 with dm := [] } := by rfl
  have h : chkS { s0 with dm := [] } = 0 := by decide +kernel
  unfold mrgR
  rw [e, h]
  rfl
theorem x_f1 : Few (mrgS s0 { zeroS with set := 2, sc := 4 }) := by
  constructor <;> decide +kernel
theorem x_f2 : Few (mrgS s0 zeroS) := by
  constructor <;> decide +kernel
theorem x_few : Few s0 := by
  constructor <;> decide +kernel

set_option maxRecDepth 100000 in
set_option maxHeartbeats 2000000 in
theorem plain_any (w : World) : Calls Tryz.prog 36 #[.int .i64 4, .int .i64 2] w fun e w' => ∃ g, e = .returned (.agg #[.int .i64 4, .int .i64 2, .slice (some ⟨g, 0, none⟩) 8 8]) ∧ Pxs w' (.slice (some ⟨g, 0, none⟩) 8 8) (List.replicate 8 zeroPx) ∧ Below w.heap.size w w' := by
  have hm : ∀ w : World, (Instr.makeSlice 40 (.int .i64 8) (.int .i64 8)).run Tryz.prog w = .ok (.slice (some ⟨w.heap.size, 0, none⟩) 8 8) (w.alloc (.cells (zerosP 8) 58)) := make_px 8 (by omega)
  have hp := (RowP.new (w.alloc (.cells #[.int .i64 4, .int .i64 2, .slice (some ⟨w.heap.size + 1, 0, none⟩) 8 8] 42)) 8).pxs (c := 8) (by simp) (by simp [maxLen])
  rw [List.length_replicate, World.size_alloc] at hp
  have HP := Lib.hid hp
  clear hp
  generalize zerosP 8 = Z at *
  go_enter Tryz.func36, Tryz.ntmps36
  go_wp2_with fail
  exact bodyPost_ret (v := .agg #[.int .i64 4, .int .i64 2, .slice (some ⟨w.heap.size + 1, 0, none⟩) 8 8]) (by simp [results, Tryz.results36, go_sem]) rfl ⟨_, rfl, HP.out, ((Below.refl w.heap.size w).alloc (Nat.le_refl _) _).alloc (by simp) _⟩

set_option maxRecDepth 100000 in
theorem init_any (w : World) : Calls Tryz.prog 15 #[] w fun e w' => e = .returned (stV initS (.slice none 0 0) (.slice none 0 0) (.slice none 0 0) (.slice none 0 0) (.slice none 0 0)) ∧ Below w.heap.size w w' := by
  go_enter Tryz.func15, Tryz.ntmps15
  go_wp2_with fail
  exact bodyPost_ret (v := stV initS (.slice none 0 0) (.slice none 0 0) (.slice none 0 0) (.slice none 0 0) (.slice none 0 0)) (by simp [results, Tryz.results15, go_sem, initS, zeroS]) rfl ⟨rfl, (Below.refl _ _).alloc (Nat.le_refl _) _⟩
set_option maxRecDepth 100000 in
theorem fld_init (W : World) : (Instr.field 28 (stV initS (.slice none 0 0) (.slice none 0 0) (.slice none 0 0) (.slice none 0 0) (.slice none 0 0)) 2).run Tryz.prog W = .ok (.int .i64 1) W := by rfl
set_option maxRecDepth 100000 in
set_option maxHeartbeats 16000000 in
theorem ex_any {w : World} (T : Trf.Tab w) : Calls Tryz.prog 11 #[] w fun e w' => e = .returned (.bool true) ∧ Below w.heap.size w w' := by
  have CP := Lib.hid (plain_any w)
  have HT := Lib.hid T
  clear T
  go_enter Tryz.func11, Tryz.ntmps11
  go_wp2_with fail
  refine CP.out.mono ?_
  rintro e w1 ⟨g, rfl, hp, hb⟩
  have HP := Lib.hid hp
  have HB := Lib.hid hb
  clear hb hp CP
  obtain ⟨kb, hkb⟩ : ∃ k, w1.heap.size = k := ⟨_, rfl⟩
  obtain ⟨wa, hwa⟩ : ∃ x, w1.alloc (.cells #[.int .i64 4, .int .i64 2, .slice (some ⟨g, 0, none⟩) 8 8] 42) = x := ⟨_, rfl⟩
  obtain ⟨kd, hkd⟩ : ∃ k, wa.heap.size = k := ⟨_, rfl⟩
  obtain ⟨wb, hwb⟩ : ∃ x, wa.alloc (.cells #[.int .i64 (-1), .int .i64 (-1), .int .i64 1, .int .i64 1, .int .i64 0, .int .i64 1, .int .i64 9, .int .i64 9] 53) = x := ⟨_, rfl⟩
  obtain ⟨k1, hk1⟩ : ∃ k, wb.heap.size = k := ⟨_, rfl⟩
  have J := Lib.hid (show HO w wb [] from ⟨by
    rw [← hwb, ← hwa]
    exact (HB.out.alloc HB.out.size _).alloc (by rw [World.size_alloc]; have := HB.out.size; omega) _, fun _ h => by simp at h, fun _ h => by simp at h, fun _ h => by simp at h, List.Pairwise.nil⟩)
  have hB1 : Below w1.heap.size w1 wb := by
    rw [← hwb, ← hwa]
    exact ((Below.refl _ w1).alloc (Nat.le_refl _) _).alloc (by rw [World.size_alloc]; omega) _
  have HS := Lib.hid (show StAt wb s0 [((⟨4, 2, List.replicate 8 zeroPx⟩ : Bf), .slice (some ⟨g, 0, none⟩) 8 8)] (.slice (some ⟨kb, 0, none⟩) 1 1) (.slice (some ⟨kd, 0, none⟩) 2 2) (.slice none 0 0) (.slice none 0 0) (.slice none 0 0) from by
    refine ⟨?_, fun p hp => ?_, rfl, ?_, sn_nil _ _, sn_nil _ _, sn_nil _ _⟩
    · have h := sn_one w1 (.int .i64 4) (.int .i64 2) (.slice (some ⟨g, 0, none⟩) 8 8) 42
      rw [hkb] at h
      refine Sn.below h ?_
      rw [← hwb, hwa]
      exact (Below.refl _ wa).alloc (Nat.le_refl _) _
    · simp only [List.mem_singleton] at hp
      subst hp
      exact HP.out.below hB1
    · refine ⟨_, 2, rfl, Nat.le_refl _, by simp [maxLen], rfl, fun _ => ⟨kd, 0, rfl, ?_, fun j u hj => ?_⟩⟩
      · rw [← hwb, ← hkd]
        simp
      · rw [← hwb, World.cell?_alloc_at _ _ _ _ (by simp [hkd])]
        have hj2 : ([.int .i64 (-1), .int .i64 (-1), .int .i64 1, .int .i64 1, .int .i64 0, .int .i64 1, .int .i64 9, .int .i64 9] : List Value)[j]? = some u := hj
        simpa using hj2)
  replace J := Lib.hid (show HO w _ [boxO k1 _] from by
    have h := J.out.alloc [.int .i64 0, .slice (some ⟨kb, 0, none⟩) 1 1, .int .i64 2, .int .i64 1, .slice (some ⟨kd, 0, none⟩) 2 2, .slice none 0 0, .bool false, .slice none 0 0, .int .i64 0, .int .i64 0, .slice none 0 0] 28
    rw [hk1] at h
    exact h)
  replace HS := Lib.hid (HS.out.below ((Below.refl wb.heap.size wb).alloc (Nat.le_refl _) (.cells ([.int .i64 0, .slice (some ⟨kb, 0, none⟩) 1 1, .int .i64 2, .int .i64 1, .slice (some ⟨kd, 0, none⟩) 2 2, .slice none 0 0, .bool false, .slice none 0 0, .int .i64 0, .int .i64 0, .slice none 0 0] : List Value).toArray 28)))
  clear HP HB hB1
  go_upto_region 2 with fail
  generalize wb.alloc (.cells #[.int .i64 0, .slice (some ⟨kb, 0, none⟩) 1 1, .int .i64 2, .int .i64 1, .slice (some ⟨kd, 0, none⟩) 2 2, .slice none 0 0, .bool false, .slice none 0 0, .int .i64 0, .int .i64 0, .slice none 0 0] 28) = v0 at *
  obtain ⟨b1, b2, b3, b4⟩ : True ∧ True ∧ True ∧ True := ⟨trivial, trivial, trivial, trivial⟩
  clear hkb hwa hkd hwb hk1 b1 b2 b3 b4
  have CZ := fun (W : World) (h : StAt W s0 [((⟨4, 2, List.replicate 8 zeroPx⟩ : Bf), .slice (some ⟨g, 0, none⟩) 8 8)] (.slice (some ⟨kb, 0, none⟩) 1 1) (.slice (some ⟨kd, 0, none⟩) 2 2) (.slice none 0 0) (.slice none 0 0) (.slice none 0 0)) => Lib.hid (sz_any rg h x_few)
  have CD := fun (W : World) (h : StAt W s0 [((⟨4, 2, List.replicate 8 zeroPx⟩ : Bf), .slice (some ⟨g, 0, none⟩) 8 8)] (.slice (some ⟨kb, 0, none⟩) 1 1) (.slice (some ⟨kd, 0, none⟩) 2 2) (.slice none 0 0) (.slice none 0 0) (.slice none 0 0)) => Lib.hid (dam_any rg h x_few)
  have CI := fun (W : World) (h : StAt W s0 [((⟨4, 2, List.replicate 8 zeroPx⟩ : Bf), .slice (some ⟨g, 0, none⟩) 8 8)] (.slice (some ⟨kb, 0, none⟩) 1 1) (.slice (some ⟨kd, 0, none⟩) 2 2) (.slice none 0 0) (.slice none 0 0) (.slice none 0 0)) => Lib.hid (inp_any rg h x_few)
  have CC := fun (W : World) (T : Trf.Tab W) (h : StAt W s0 [((⟨4, 2, List.replicate 8 zeroPx⟩ : Bf), .slice (some ⟨g, 0, none⟩) 8 8)] (.slice (some ⟨kb, 0, none⟩) 1 1) (.slice (some ⟨kd, 0, none⟩) 2 2) (.slice none 0 0) (.slice none 0 0) (.slice none 0 0)) => Lib.hid (cont_any rg T h x_few)
  have CM1 := fun (W : World) (h : StAt W s0 [((⟨4, 2, List.replicate 8 zeroPx⟩ : Bf), .slice (some ⟨g, 0, none⟩) 8 8)] (.slice (some ⟨kb, 0, none⟩) 1 1) (.slice (some ⟨kd, 0, none⟩) 2 2) (.slice none 0 0) (.slice none 0 0) (.slice none 0 0)) => Lib.hid (merge_any rg h (st_init W { zeroS with set := 2, sc := 4 } ⟨rfl, rfl, rfl, rfl, rfl⟩) (by decide +kernel) (by decide +kernel) x_f1)
  have CM2 := fun (W : World) (h : StAt W s0 [((⟨4, 2, List.replicate 8 zeroPx⟩ : Bf), .slice (some ⟨g, 0, none⟩) 8 8)] (.slice (some ⟨kb, 0, none⟩) 1 1) (.slice (some ⟨kd, 0, none⟩) 2 2) (.slice none 0 0) (.slice none 0 0) (.slice none 0 0)) => Lib.hid (merge_any rg h (st_init W zeroS ⟨rfl, rfl, rfl, rfl, rfl⟩) (by decide +kernel) (by decide +kernel) x_f2)
  have CK := fun (W : World) (h : StAt W s0 [((⟨4, 2, List.replicate 8 zeroPx⟩ : Bf), .slice (some ⟨g, 0, none⟩) 8 8)] (.slice (some ⟨kb, 0, none⟩) 1 1) (.slice (some ⟨kd, 0, none⟩) 2 2) (.slice none 0 0) (.slice none 0 0) (.slice none 0 0)) => Lib.hid (chk_any rg h x_few)
  unfold MrO at CM1 CM2
  unfold ConO at CC
  simp only [x_siz] at CZ CC
  simp only [x_dam] at CD
  simp only [x_inp] at CI
  simp only [x_has] at CC
  simp only [x_m1] at CM1
  simp only [x_m2] at CM2
  simp only [x_chk] at CK
  have CIN := fun (W : World) => Lib.hid (init_any W)
  generalize hs1 : ({ s0 with dm := [] } : St) = s1 at *
  obtain ⟨q1_0, q1_1, q1_2, q1_3, q1_4, q1_5, q1_6, q1_7, q1_8, q1_9, q1_10, q1_f, q1_l⟩ := (show HO w _ ([] ++ boxO k1 [_, _, _, _, _, _, _, _, _, _, _] :: _) from J.out).c11
  go_wp2_with fail
  refine (CZ _ HS.out).out.mono ?_
  rintro e v2 ⟨rfl, hb⟩
  replace J := Lib.hid (J.out.step hb)
  replace HS := Lib.hid (HS.out.below hb)
  clear hb CZ
  clear q1_0 q1_1 q1_2 q1_3 q1_4 q1_5 q1_6 q1_7 q1_8 q1_9 q1_10 q1_f q1_l
  obtain ⟨q3_0, q3_1, q3_2, q3_3, q3_4, q3_5, q3_6, q3_7, q3_8, q3_9, q3_10, q3_f, q3_l⟩ := (show HO w _ ([] ++ boxO k1 [_, _, _, _, _, _, _, _, _, _, _] :: _) from J.out).c11
  go_wp2_with fail
  refine (CD _ HS.out).out.mono ?_
  rintro e v4 ⟨td, rfl, hd, hb⟩
  have HD := Lib.hid hd
  obtain ⟨Ad9, cd9, g1, -, -⟩ := hd.shape
  simp only [List.length_singleton] at g1
  subst g1
  replace J := Lib.hid (J.out.step hb)
  replace HS := Lib.hid (HS.out.below hb)
  clear hb hd CD
  clear q3_0 q3_1 q3_2 q3_3 q3_4 q3_5 q3_6 q3_7 q3_8 q3_9 q3_10 q3_f q3_l
  replace HD := Lib.hid HD.out
  obtain ⟨q5_0, q5_1, q5_2, q5_3, q5_4, q5_5, q5_6, q5_7, q5_8, q5_9, q5_10, q5_f, q5_l⟩ := (show HO w _ ([] ++ boxO k1 [_, _, _, _, _, _, _, _, _, _, _] :: _) from J.out).c11
  go_wp2_with fail
  refine (CI _ HS.out).out.mono ?_
  rintro e v6 ⟨ti, rfl, hd, hb⟩
  have HI := Lib.hid hd
  obtain ⟨Ai9, ci9, g1, -, -⟩ := hd.shape
  simp only [List.length_singleton] at g1
  subst g1
  replace J := Lib.hid (J.out.step hb)
  replace HS := Lib.hid (HS.out.below hb)
  replace HD := Lib.hid (HD.out.below hb)
  clear hb hd CI
  clear q5_0 q5_1 q5_2 q5_3 q5_4 q5_5 q5_6 q5_7 q5_8 q5_9 q5_10 q5_f q5_l
  obtain ⟨q7_0, q7_1, q7_2, q7_3, q7_4, q7_5, q7_6, q7_7, q7_8, q7_9, q7_10, q7_f, q7_l⟩ := (show HO w _ ([] ++ boxO k1 [_, _, _, _, _, _, _, _, _, _, _] :: _) from J.out).c11
  go_wp2_with fail
  refine (CC _ (HT.out.below J.out.below) HS.out).out.mono ?_
  rintro e v8 ⟨vc, rfl, hd, hb⟩
  obtain ⟨A8, c8, g1, -, -⟩ := hd.shape
  rw [x_con] at g1
  subst g1
  replace J := Lib.hid ((J.out.step hb).alloc [.int .i64 1, .int .i64 2, .slice A8 2 c8] 42)
  replace HS := Lib.hid (HS.out.below hb)
  replace HD := Lib.hid (HD.out.below hb)
  replace HI := Lib.hid (HI.out.below hb)
  have hb9 := (Below.refl v8.heap.size v8).alloc (Nat.le_refl _) (.cells ([.int .i64 1, .int .i64 2, .slice A8 2 c8]).toArray 42)
  replace HS := Lib.hid (HS.out.below hb9)
  replace HD := Lib.hid (HD.out.below hb9)
  replace HI := Lib.hid (HI.out.below hb9)
  clear hb hb9 hd CC
  clear q7_0 q7_1 q7_2 q7_3 q7_4 q7_5 q7_6 q7_7 q7_8 q7_9 q7_10 q7_f q7_l
  go_upto_region 6 with fail
  generalize v8.alloc (.cells #[.int .i64 1, .int .i64 2, .slice A8 2 c8] 42) = v9 at *
  generalize v8.heap.size = k9 at *
  obtain ⟨q10_0, q10_1, q10_2, q10_3, q10_4, q10_5, q10_6, q10_7, q10_8, q10_9, q10_10, q10_f, q10_l⟩ := (show HO w _ ([_] ++ boxO k1 [_, _, _, _, _, _, _, _, _, _, _] :: _) from J.out).c11
  go_wp2_with fail
  refine (CM1 _ HS.out).out.mono ?_
  rintro e v11 ⟨L1, vb1, vd1, vo1, vi1, vc1, rfl, hm, hb⟩
  obtain ⟨A7, c7, g1, -, -⟩ := hm.bf.shape
  obtain ⟨Ad7, cd7, g2, -, -⟩ := hm.dm.shape
  obtain ⟨Ao7, co7, g3, -, -⟩ := hm.op.shape
  obtain ⟨Ai7, ci7, g4, -, -⟩ := hm.ip.shape
  obtain ⟨Ac7, cc7, g5, -, -⟩ := hm.cb.shape
  subst g1 g2 g3 g4 g5
  replace J := Lib.hid ((J.out.step hb).alloc (stC zeroS (.slice A7 L1.length c7) (.slice Ad7 zeroS.dm.length cd7) (.slice Ao7 zeroS.op.length co7) (.slice Ai7 zeroS.ip.length ci7) (.slice Ac7 zeroS.cb.length cc7)) 28)
  replace HS := Lib.hid (HS.out.below hb)
  replace HD := Lib.hid (HD.out.below hb)
  replace HI := Lib.hid (HI.out.below hb)
  have hb9 := (Below.refl v11.heap.size v11).alloc (Nat.le_refl _) (.cells ((stC zeroS (.slice A7 L1.length c7) (.slice Ad7 zeroS.dm.length cd7) (.slice Ao7 zeroS.op.length co7) (.slice Ai7 zeroS.ip.length ci7) (.slice Ac7 zeroS.cb.length cc7))).toArray 28)
  replace HS := Lib.hid (HS.out.below hb9)
  replace HD := Lib.hid (HD.out.below hb9)
  replace HI := Lib.hid (HI.out.below hb9)
  clear hb hb9 hm CM1
  clear q10_0 q10_1 q10_2 q10_3 q10_4 q10_5 q10_6 q10_7 q10_8 q10_9 q10_10 q10_f q10_l
  go_upto_region 7 with fail
  generalize v11.alloc (.cells #[.int .i64 zeroS.set, .slice A7 L1.length c7, .int .i64 zeroS.sc, .int .i64 zeroS.tr, .slice Ad7 zeroS.dm.length cd7, .slice Ao7 zeroS.op.length co7, .bool zeroS.is, .slice Ai7 zeroS.ip.length ci7, .int .i64 zeroS.dx, .int .i64 zeroS.dy, .slice Ac7 zeroS.cb.length cc7] 28) = v12 at *
  generalize v11.heap.size = k12 at *
  obtain ⟨q13_0, q13_1, q13_2, q13_3, q13_4, q13_5, q13_6, q13_7, q13_8, q13_9, q13_10, q13_f, q13_l⟩ := (show HO w _ ([_, _] ++ boxO k1 [_, _, _, _, _, _, _, _, _, _, _] :: _) from J.out).c11
  go_wp2_with fail
  refine (CM2 _ HS.out).out.mono ?_
  rintro e v14 ⟨L2, vb2, vd2, vo2, vi2, vc2, rfl, hm, hb⟩
  obtain ⟨A6, c6, g1, -, -⟩ := hm.bf.shape
  obtain ⟨Ad6, cd6, g2, -, -⟩ := hm.dm.shape
  obtain ⟨Ao6, co6, g3, -, -⟩ := hm.op.shape
  obtain ⟨Ai6, ci6, g4, -, -⟩ := hm.ip.shape
  obtain ⟨Ac6, cc6, g5, -, -⟩ := hm.cb.shape
  subst g1 g2 g3 g4 g5
  have hl2 : L2.length = 1 := by rw [← hm.len, ← hs1]; rfl
  have hd2 : s1.dm.length = 0 := by rw [← hs1]; rfl
  rw [hl2, hd2]
  replace J := Lib.hid ((J.out.step hb).alloc [.int .i64 s1.set, .slice A6 1 c6, .int .i64 s1.sc, .int .i64 s1.tr, .slice Ad6 0 cd6, .slice Ao6 s1.op.length co6, .bool s1.is, .slice Ai6 s1.ip.length ci6, .int .i64 s1.dx, .int .i64 s1.dy, .slice Ac6 s1.cb.length cc6] 28)
  replace HS := Lib.hid (HS.out.below hb)
  replace HD := Lib.hid (HD.out.below hb)
  replace HI := Lib.hid (HI.out.below hb)
  have hb9 := (Below.refl v14.heap.size v14).alloc (Nat.le_refl _) (.cells ([.int .i64 s1.set, .slice A6 1 c6, .int .i64 s1.sc, .int .i64 s1.tr, .slice Ad6 0 cd6, .slice Ao6 s1.op.length co6, .bool s1.is, .slice Ai6 s1.ip.length ci6, .int .i64 s1.dx, .int .i64 s1.dy, .slice Ac6 s1.cb.length cc6]).toArray 28)
  replace HS := Lib.hid (HS.out.below hb9)
  replace HD := Lib.hid (HD.out.below hb9)
  replace HI := Lib.hid (HI.out.below hb9)
  clear hb hb9 hm CM2 hl2 hd2
  clear q13_0 q13_1 q13_2 q13_3 q13_4 q13_5 q13_6 q13_7 q13_8 q13_9 q13_10 q13_f q13_l
  go_upto_region 8 with fail
  generalize v14.alloc (.cells #[.int .i64 s1.set, .slice A6 1 c6, .int .i64 s1.sc, .int .i64 s1.tr, .slice Ad6 0 cd6, .slice Ao6 s1.op.length co6, .bool s1.is, .slice Ai6 s1.ip.length ci6, .int .i64 s1.dx, .int .i64 s1.dy, .slice Ac6 s1.cb.length cc6] 28) = v15 at *
  generalize v14.heap.size = k15 at *
  have HSC := Lib.hid (show s1.sc = 2 from by rw [← hs1]; rfl)
  clear hs1
  obtain ⟨q16_0, q16_1, q16_2, q16_3, q16_4, q16_5, q16_6, q16_7, q16_8, q16_9, q16_10, q16_f, q16_l⟩ := (show HO w _ ([_, _, _] ++ boxO k1 [_, _, _, _, _, _, _, _, _, _, _] :: _) from J.out).c11
  go_wp2_with fail
  refine (CK _ HS.out).out.mono ?_
  rintro e v17 ⟨rfl, hb⟩
  replace J := Lib.hid (J.out.step hb)
  replace HS := Lib.hid (HS.out.below hb)
  replace HD := Lib.hid (HD.out.below hb)
  replace HI := Lib.hid (HI.out.below hb)
  clear hb CK
  clear q16_0 q16_1 q16_2 q16_3 q16_4 q16_5 q16_6 q16_7 q16_8 q16_9 q16_10 q16_f q16_l
  go_wp2_with fail
  have CS := Lib.hid (Rgn.same_true (rgn_rs (HD.out.below ((Below.refl v17.heap.size v17).alloc (Nat.le_refl _) (.cells #[.int .i64 0, .int .i64 0, .int .i64 1, .int .i64 2] 53)))) (rgn_rs (rs_one v17 ⟨0, 0, 1, 2⟩)))
  replace J := Lib.hid (J.out.made (.cells #[.int .i64 0, .int .i64 0, .int .i64 1, .int .i64 2] 53))
  have hb9 := (Below.refl v17.heap.size v17).alloc (Nat.le_refl _) (.cells #[.int .i64 0, .int .i64 0, .int .i64 1, .int .i64 2] 53)
  replace HS := Lib.hid (HS.out.below hb9)
  replace HD := Lib.hid (HD.out.below hb9)
  replace HI := Lib.hid (HI.out.below hb9)
  clear hb9
  refine (CS).out.mono ?_
  rintro e v18 ⟨rfl, hb⟩
  replace J := Lib.hid (J.out.step hb)
  replace HS := Lib.hid (HS.out.below hb)
  replace HD := Lib.hid (HD.out.below hb)
  replace HI := Lib.hid (HI.out.below hb)
  clear hb CS
  go_wp2_with fail
  have CS := Lib.hid (Rgn.same_true (rgn_rs (HI.out.below ((Below.refl v18.heap.size v18).alloc (Nat.le_refl _) (.cells #[.int .i64 0, .int .i64 0, .int .i64 1, .int .i64 2] 53)))) (rgn_rs (rs_one v18 ⟨0, 0, 1, 2⟩)))
  replace J := Lib.hid (J.out.made (.cells #[.int .i64 0, .int .i64 0, .int .i64 1, .int .i64 2] 53))
  have hb9 := (Below.refl v18.heap.size v18).alloc (Nat.le_refl _) (.cells #[.int .i64 0, .int .i64 0, .int .i64 1, .int .i64 2] 53)
  replace HS := Lib.hid (HS.out.below hb9)
  replace HD := Lib.hid (HD.out.below hb9)
  replace HI := Lib.hid (HI.out.below hb9)
  clear hb9
  refine (CS).out.mono ?_
  rintro e v19 ⟨rfl, hb⟩
  replace J := Lib.hid (J.out.step hb)
  replace HS := Lib.hid (HS.out.below hb)
  replace HD := Lib.hid (HD.out.below hb)
  replace HI := Lib.hid (HI.out.below hb)
  clear hb CS
  obtain ⟨q20_0, q20_1, q20_2, q20_f, q20_l⟩ := (show HO w _ ([_, _] ++ boxO k9 [_, _, _] :: _) from J.out).c3
  obtain ⟨q21_0, q21_1, q21_2, q21_3, q21_4, q21_5, q21_6, q21_7, q21_8, q21_9, q21_10, q21_f, q21_l⟩ := (show HO w _ ([] ++ boxO k15 [_, _, _, _, _, _, _, _, _, _, _] :: _) from J.out).c11
  have hsc := HSC.out
  go_wp2_with fail
  refine (CIN _).out.mono ?_
  rintro e v22 ⟨rfl, hb⟩
  replace J := Lib.hid (J.out.step hb)
  replace HS := Lib.hid (HS.out.below hb)
  replace HD := Lib.hid (HD.out.below hb)
  replace HI := Lib.hid (HI.out.below hb)
  clear hb CIN
  clear q20_0 q20_1 q20_2 q20_f q20_l q21_0 q21_1 q21_2 q21_3 q21_4 q21_5 q21_6 q21_7 q21_8 q21_9 q21_10 q21_f q21_l
  have hin := fun W : World => fld_init W
  go_wp2_with fail
  go_ret
  exact ⟨rfl, J.out.below⟩
end Go.Proofs.YthedglfocjljjaaGreatDoor
