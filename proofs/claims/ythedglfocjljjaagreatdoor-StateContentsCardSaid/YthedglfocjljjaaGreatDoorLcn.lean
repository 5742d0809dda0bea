/-
  The law StateContents: its walk.
-/
import Derived.Test.YthedglfocjljjaaGreatDoorExm
import Derived.Test.YthedglfocjljjaaGreatDoorSmt
namespace Go.Proofs.YthedglfocjljjaaGreatDoor
open Go.RowKit

set_option maxRecDepth 100000 in
set_option maxHeartbeats 16000000 in
theorem contents_walk {w : World} (T : Trf.Tab w) {s : St} {L : List Bv} {vb vd vo vi vc : Value} (h : StAt w s L vb vd vo vi vc) :
    Calls Tryz.prog 5 #[stV s vb vd vo vi vc] w fun e w' => e = .returned (.bool true) ∧ Below w.heap.size w w' := by
  obtain ⟨A1, c1, rfl, h11, h21⟩ := h.bf.shape
  obtain ⟨Ad1, cd1, rfl, hd11, hd21⟩ := h.dm.shape
  obtain ⟨Ao1, co1, rfl, ho11, ho21⟩ := h.op.shape
  obtain ⟨Ai1, ci1, rfl, hi11, hi21⟩ := h.ip.shape
  obtain ⟨Ac1, cc1, rfl, hc11, hc21⟩ := h.cb.shape
  have HS := Lib.hid h
  have HT := Lib.hid T
  have CL := fun (W : World) (h : StAt W s L (.slice A1 L.length c1) (.slice Ad1 s.dm.length cd1) (.slice Ao1 s.op.length co1) (.slice Ai1 s.ip.length ci1) (.slice Ac1 s.cb.length cc1)) => Lib.hid (light_any h)
  have CE := fun (W : World) (T : Trf.Tab W) => Lib.hid (ex_any T)
  have J := Lib.hid ((HO.nil w).alloc (stC s (.slice A1 L.length c1) (.slice Ad1 s.dm.length cd1) (.slice Ao1 s.op.length co1) (.slice Ai1 s.ip.length ci1) (.slice Ac1 s.cb.length cc1)) 28)
  have hb := J.out.below
  replace HS := Lib.hid (HS.out.below hb)
  replace HT := Lib.hid (HT.out.below hb)
  clear h T hb
  cases hl : lightB s with
  | false =>
    rw [hl] at CL
    clear hl
    go_enter Tryz.func5, Tryz.ntmps5
    obtain ⟨q1_0, q1_1, q1_2, q1_3, q1_4, q1_5, q1_6, q1_7, q1_8, q1_9, q1_10, q1_f, q1_l⟩ := (show HO w _ ([] ++ boxO w.heap.size [_, _, _, _, _, _, _, _, _, _, _] :: _) from J.out).c11
    go_wp2_with fail
    refine (CL _ HS.out).out.mono ?_
    rintro e v2 ⟨rfl, hb⟩
    replace J := Lib.hid (J.out.step hb)
    replace HS := Lib.hid (HS.out.below hb)
    replace HT := Lib.hid (HT.out.below hb)
    clear hb
    clear q1_0 q1_1 q1_2 q1_3 q1_4 q1_5 q1_6 q1_7 q1_8 q1_9 q1_10 q1_f q1_l
    obtain ⟨q3_0, q3_1, q3_2, q3_3, q3_4, q3_5, q3_6, q3_7, q3_8, q3_9, q3_10, q3_f, q3_l⟩ := (show HO w _ ([] ++ boxO w.heap.size [_, _, _, _, _, _, _, _, _, _, _] :: _) from J.out).c11
    go_wp2_with fail
    refine (CE _ HT.out).out.mono ?_
    rintro e v4 ⟨rfl, hb⟩
    replace J := Lib.hid (J.out.step hb)
    replace HS := Lib.hid (HS.out.below hb)
    replace HT := Lib.hid (HT.out.below hb)
    clear hb
    clear q3_0 q3_1 q3_2 q3_3 q3_4 q3_5 q3_6 q3_7 q3_8 q3_9 q3_10 q3_f q3_l
    go_wp2_with fail
    go_ret
    exact ⟨rfl, J.out.below⟩
  | true =>
    rw [hl] at CL
    have hf := light_few hl
    have CZ := fun (W : World) (h : StAt W s L (.slice A1 L.length c1) (.slice Ad1 s.dm.length cd1) (.slice Ao1 s.op.length co1) (.slice Ai1 s.ip.length ci1) (.slice Ac1 s.cb.length cc1)) => Lib.hid (sz_any rg h hf)
    have RZ := fun (W : World) (h : StAt W s L (.slice A1 L.length c1) (.slice Ad1 s.dm.length cd1) (.slice Ao1 s.op.length co1) (.slice Ai1 s.ip.length ci1) (.slice Ac1 s.cb.length cc1)) => Lib.hid (rsz_any h hf)
    have CC := fun (W : World) (T : Trf.Tab W) (h : StAt W s L (.slice A1 L.length c1) (.slice Ad1 s.dm.length cd1) (.slice Ao1 s.op.length co1) (.slice Ai1 s.ip.length ci1) (.slice Ac1 s.cb.length cc1)) => Lib.hid (cont_any rg T h hf)
    have RC := fun (W : World) (h : StAt W s L (.slice A1 L.length c1) (.slice Ad1 s.dm.length cd1) (.slice Ao1 s.op.length co1) (.slice Ai1 s.ip.length ci1) (.slice Ac1 s.cb.length cc1)) => Lib.hid (rcont_any h hf)
    have CD := fun (W : World) (h : StAt W s L (.slice A1 L.length c1) (.slice Ad1 s.dm.length cd1) (.slice Ao1 s.op.length co1) (.slice Ai1 s.ip.length ci1) (.slice Ac1 s.cb.length cc1)) => Lib.hid (dam_any rg h hf)
    have RD := fun (W : World) (h : StAt W s L (.slice A1 L.length c1) (.slice Ad1 s.dm.length cd1) (.slice Ao1 s.op.length co1) (.slice Ai1 s.ip.length ci1) (.slice Ac1 s.cb.length cc1)) => Lib.hid (rdam_any h hf)
    have CI := fun (W : World) (h : StAt W s L (.slice A1 L.length c1) (.slice Ad1 s.dm.length cd1) (.slice Ao1 s.op.length co1) (.slice Ai1 s.ip.length ci1) (.slice Ac1 s.cb.length cc1)) => Lib.hid (inp_any rg h hf)
    have RI := fun (W : World) (h : StAt W s L (.slice A1 L.length c1) (.slice Ad1 s.dm.length cd1) (.slice Ao1 s.op.length co1) (.slice Ai1 s.ip.length ci1) (.slice Ac1 s.cb.length cc1)) => Lib.hid (rinp_any h hf)
    unfold ConO at CC RC
    generalize (sizS s).1 = zw at *
    generalize (sizS s).2 = zh at *
    generalize hasC s = hc at *
    generalize conR s = cl at *
    generalize (clipF s s.dm).1 = dl at *
    generalize (clipF s s.dm).2 = de at *
    generalize (clipF s (inpL s)).1 = il at *
    generalize (clipF s (inpL s)).2 = ie at *
    clear hl hf
    go_enter Tryz.func5, Tryz.ntmps5
    obtain ⟨q1_0, q1_1, q1_2, q1_3, q1_4, q1_5, q1_6, q1_7, q1_8, q1_9, q1_10, q1_f, q1_l⟩ := (show HO w _ ([] ++ boxO w.heap.size [_, _, _, _, _, _, _, _, _, _, _] :: _) from J.out).c11
    go_wp2_with fail
    refine (CL _ HS.out).out.mono ?_
    rintro e v2 ⟨rfl, hb⟩
    replace J := Lib.hid (J.out.step hb)
    replace HS := Lib.hid (HS.out.below hb)
    replace HT := Lib.hid (HT.out.below hb)
    clear hb CL
    clear q1_0 q1_1 q1_2 q1_3 q1_4 q1_5 q1_6 q1_7 q1_8 q1_9 q1_10 q1_f q1_l
    obtain ⟨q3_0, q3_1, q3_2, q3_3, q3_4, q3_5, q3_6, q3_7, q3_8, q3_9, q3_10, q3_f, q3_l⟩ := (show HO w _ ([] ++ boxO w.heap.size [_, _, _, _, _, _, _, _, _, _, _] :: _) from J.out).c11
    go_wp2_with fail
    refine (CZ _ HS.out).out.mono ?_
    rintro e v4 ⟨rfl, hb⟩
    replace J := Lib.hid (J.out.step hb)
    replace HS := Lib.hid (HS.out.below hb)
    replace HT := Lib.hid (HT.out.below hb)
    clear hb CZ
    clear q3_0 q3_1 q3_2 q3_3 q3_4 q3_5 q3_6 q3_7 q3_8 q3_9 q3_10 q3_f q3_l
    obtain ⟨q5_0, q5_1, q5_2, q5_3, q5_4, q5_5, q5_6, q5_7, q5_8, q5_9, q5_10, q5_f, q5_l⟩ := (show HO w _ ([] ++ boxO w.heap.size [_, _, _, _, _, _, _, _, _, _, _] :: _) from J.out).c11
    go_wp2_with fail
    refine (RZ _ HS.out).out.mono ?_
    rintro e v6 ⟨rfl, hb⟩
    replace J := Lib.hid (J.out.step hb)
    replace HS := Lib.hid (HS.out.below hb)
    replace HT := Lib.hid (HT.out.below hb)
    clear hb RZ
    clear q5_0 q5_1 q5_2 q5_3 q5_4 q5_5 q5_6 q5_7 q5_8 q5_9 q5_10 q5_f q5_l
    obtain ⟨q7_0, q7_1, q7_2, q7_3, q7_4, q7_5, q7_6, q7_7, q7_8, q7_9, q7_10, q7_f, q7_l⟩ := (show HO w _ ([] ++ boxO w.heap.size [_, _, _, _, _, _, _, _, _, _, _] :: _) from J.out).c11
    go_wp2_with fail
    refine (CC _ HT.out HS.out).out.mono ?_
    rintro e v8 ⟨u9, rfl, hd, hb⟩
    obtain ⟨A2, c2, g1, -, -⟩ := hd.shape
    subst g1
    have HA := Lib.hid hd
    replace J := Lib.hid ((J.out.step hb).alloc [.int .i64 zw, .int .i64 zh, .slice A2 cl.length c2] 42)
    replace HS := Lib.hid (HS.out.below hb)
    replace HT := Lib.hid (HT.out.below hb)
    have hb9 := (Below.refl v8.heap.size v8).alloc (Nat.le_refl _) (.cells ([.int .i64 zw, .int .i64 zh, .slice A2 cl.length c2]).toArray 42)
    replace HS := Lib.hid (HS.out.below hb9)
    replace HT := Lib.hid (HT.out.below hb9)
    replace HA := Lib.hid (HA.out.below hb9)
    clear hb hb9 hd CC
    clear q7_0 q7_1 q7_2 q7_3 q7_4 q7_5 q7_6 q7_7 q7_8 q7_9 q7_10 q7_f q7_l
    go_upto_region 6 with fail
    generalize v8.alloc (.cells #[.int .i64 zw, .int .i64 zh, .slice A2 cl.length c2] 42) = v9 at *
    generalize v8.heap.size = k9 at *
    obtain ⟨q10_0, q10_1, q10_2, q10_3, q10_4, q10_5, q10_6, q10_7, q10_8, q10_9, q10_10, q10_f, q10_l⟩ := (show HO w _ ([_] ++ boxO w.heap.size [_, _, _, _, _, _, _, _, _, _, _] :: _) from J.out).c11
    go_wp2_with fail
    refine (RC _ HS.out).out.mono ?_
    rintro e v11 ⟨u9, rfl, hd, hb⟩
    obtain ⟨A3, c3, g1, -, -⟩ := hd.shape
    subst g1
    have HB := Lib.hid hd
    replace J := Lib.hid ((J.out.step hb).alloc [.int .i64 zw, .int .i64 zh, .slice A3 cl.length c3] 42)
    replace HS := Lib.hid (HS.out.below hb)
    replace HT := Lib.hid (HT.out.below hb)
    replace HA := Lib.hid (HA.out.below hb)
    have hb9 := (Below.refl v11.heap.size v11).alloc (Nat.le_refl _) (.cells ([.int .i64 zw, .int .i64 zh, .slice A3 cl.length c3]).toArray 42)
    replace HS := Lib.hid (HS.out.below hb9)
    replace HT := Lib.hid (HT.out.below hb9)
    replace HA := Lib.hid (HA.out.below hb9)
    replace HB := Lib.hid (HB.out.below hb9)
    clear hb hb9 hd RC
    clear q10_0 q10_1 q10_2 q10_3 q10_4 q10_5 q10_6 q10_7 q10_8 q10_9 q10_10 q10_f q10_l
    go_upto_region 7 with fail
    generalize v11.alloc (.cells #[.int .i64 zw, .int .i64 zh, .slice A3 cl.length c3] 42) = v12 at *
    generalize v11.heap.size = k12 at *
    obtain ⟨q13_0, q13_1, q13_2, q13_3, q13_4, q13_5, q13_6, q13_7, q13_8, q13_9, q13_10, q13_f, q13_l⟩ := (show HO w _ ([_, _] ++ boxO w.heap.size [_, _, _, _, _, _, _, _, _, _, _] :: _) from J.out).c11
    go_wp2_with fail
    refine (CD _ HS.out).out.mono ?_
    rintro e v14 ⟨u9, rfl, hd, hb⟩
    obtain ⟨A4, c4, g1, -, -⟩ := hd.shape
    subst g1
    have HD0 := Lib.hid hd
    replace J := Lib.hid (J.out.step hb)
    replace HS := Lib.hid (HS.out.below hb)
    replace HT := Lib.hid (HT.out.below hb)
    replace HA := Lib.hid (HA.out.below hb)
    replace HB := Lib.hid (HB.out.below hb)
    clear hb hd CD
    clear q13_0 q13_1 q13_2 q13_3 q13_4 q13_5 q13_6 q13_7 q13_8 q13_9 q13_10 q13_f q13_l
    have HD := HD0
    clear HD0
    obtain ⟨q15_0, q15_1, q15_2, q15_3, q15_4, q15_5, q15_6, q15_7, q15_8, q15_9, q15_10, q15_f, q15_l⟩ := (show HO w _ ([_, _] ++ boxO w.heap.size [_, _, _, _, _, _, _, _, _, _, _] :: _) from J.out).c11
    go_wp2_with fail
    refine (RD _ HS.out).out.mono ?_
    rintro e v16 ⟨u9, rfl, hd, hb⟩
    obtain ⟨A5, c5, g1, -, -⟩ := hd.shape
    subst g1
    have HE0 := Lib.hid hd
    replace J := Lib.hid (J.out.step hb)
    replace HS := Lib.hid (HS.out.below hb)
    replace HT := Lib.hid (HT.out.below hb)
    replace HA := Lib.hid (HA.out.below hb)
    replace HB := Lib.hid (HB.out.below hb)
    replace HD := Lib.hid (HD.out.below hb)
    clear hb hd RD
    clear q15_0 q15_1 q15_2 q15_3 q15_4 q15_5 q15_6 q15_7 q15_8 q15_9 q15_10 q15_f q15_l
    have HE := HE0
    clear HE0
    obtain ⟨q17_0, q17_1, q17_2, q17_3, q17_4, q17_5, q17_6, q17_7, q17_8, q17_9, q17_10, q17_f, q17_l⟩ := (show HO w _ ([_, _] ++ boxO w.heap.size [_, _, _, _, _, _, _, _, _, _, _] :: _) from J.out).c11
    go_wp2_with fail
    refine (CI _ HS.out).out.mono ?_
    rintro e v18 ⟨u9, rfl, hd, hb⟩
    obtain ⟨A6, c6, g1, -, -⟩ := hd.shape
    subst g1
    have HI0 := Lib.hid hd
    replace J := Lib.hid (J.out.step hb)
    replace HS := Lib.hid (HS.out.below hb)
    replace HT := Lib.hid (HT.out.below hb)
    replace HA := Lib.hid (HA.out.below hb)
    replace HB := Lib.hid (HB.out.below hb)
    replace HD := Lib.hid (HD.out.below hb)
    replace HE := Lib.hid (HE.out.below hb)
    clear hb hd CI
    clear q17_0 q17_1 q17_2 q17_3 q17_4 q17_5 q17_6 q17_7 q17_8 q17_9 q17_10 q17_f q17_l
    have HI := HI0
    clear HI0
    obtain ⟨q19_0, q19_1, q19_2, q19_3, q19_4, q19_5, q19_6, q19_7, q19_8, q19_9, q19_10, q19_f, q19_l⟩ := (show HO w _ ([_, _] ++ boxO w.heap.size [_, _, _, _, _, _, _, _, _, _, _] :: _) from J.out).c11
    go_wp2_with fail
    refine (RI _ HS.out).out.mono ?_
    rintro e v20 ⟨u9, rfl, hd, hb⟩
    obtain ⟨A7, c7, g1, -, -⟩ := hd.shape
    subst g1
    have HO90 := Lib.hid hd
    replace J := Lib.hid (J.out.step hb)
    replace HS := Lib.hid (HS.out.below hb)
    replace HT := Lib.hid (HT.out.below hb)
    replace HA := Lib.hid (HA.out.below hb)
    replace HB := Lib.hid (HB.out.below hb)
    replace HD := Lib.hid (HD.out.below hb)
    replace HE := Lib.hid (HE.out.below hb)
    replace HI := Lib.hid (HI.out.below hb)
    clear hb hd RI
    clear q19_0 q19_1 q19_2 q19_3 q19_4 q19_5 q19_6 q19_7 q19_8 q19_9 q19_10 q19_f q19_l
    have HO9 := HO90
    clear HO90
    obtain ⟨q21_0, q21_1, q21_2, q21_f, q21_l⟩ := (show HO w _ ([_] ++ boxO k9 [_, _, _] :: _) from J.out).c3
    obtain ⟨q22_0, q22_1, q22_2, q22_f, q22_l⟩ := (show HO w _ ([] ++ boxO k12 [_, _, _] :: _) from J.out).c3
    have BS := Lib.hid (Trf.rsame_true zw zh (pxs_T HA.out) (pxs_T HB.out))
    go_wp2_with fail
    refine (BS).out.mono ?_
    rintro e v23 ⟨rfl, hb⟩
    replace J := Lib.hid (J.out.step hb)
    replace HS := Lib.hid (HS.out.below hb)
    replace HT := Lib.hid (HT.out.below hb)
    replace HA := Lib.hid (HA.out.below hb)
    replace HB := Lib.hid (HB.out.below hb)
    replace HD := Lib.hid (HD.out.below hb)
    replace HE := Lib.hid (HE.out.below hb)
    replace HI := Lib.hid (HI.out.below hb)
    replace HO9 := Lib.hid (HO9.out.below hb)
    clear hb BS
    clear q21_0 q21_1 q21_2 q21_f q21_l q22_0 q22_1 q22_2 q22_f q22_l
    have DS := Lib.hid (Rgn.same_true (rgn_rs HD.out) (rgn_rs HE.out))
    go_wp2_with fail
    refine (DS).out.mono ?_
    rintro e v24 ⟨rfl, hb⟩
    replace J := Lib.hid (J.out.step hb)
    replace HS := Lib.hid (HS.out.below hb)
    replace HT := Lib.hid (HT.out.below hb)
    replace HA := Lib.hid (HA.out.below hb)
    replace HB := Lib.hid (HB.out.below hb)
    replace HD := Lib.hid (HD.out.below hb)
    replace HE := Lib.hid (HE.out.below hb)
    replace HI := Lib.hid (HI.out.below hb)
    replace HO9 := Lib.hid (HO9.out.below hb)
    clear hb DS
    have IS := Lib.hid (Rgn.same_true (rgn_rs HI.out) (rgn_rs HO9.out))
    go_wp2_with fail
    refine (IS).out.mono ?_
    rintro e v25 ⟨rfl, hb⟩
    replace J := Lib.hid (J.out.step hb)
    replace HS := Lib.hid (HS.out.below hb)
    replace HT := Lib.hid (HT.out.below hb)
    replace HA := Lib.hid (HA.out.below hb)
    replace HB := Lib.hid (HB.out.below hb)
    replace HD := Lib.hid (HD.out.below hb)
    replace HE := Lib.hid (HE.out.below hb)
    replace HI := Lib.hid (HI.out.below hb)
    replace HO9 := Lib.hid (HO9.out.below hb)
    clear hb IS
    go_wp2_with fail
    refine (CE _ HT.out).out.mono ?_
    rintro e v26 ⟨rfl, hb⟩
    replace J := Lib.hid (J.out.step hb)
    replace HS := Lib.hid (HS.out.below hb)
    replace HT := Lib.hid (HT.out.below hb)
    replace HA := Lib.hid (HA.out.below hb)
    replace HB := Lib.hid (HB.out.below hb)
    replace HD := Lib.hid (HD.out.below hb)
    replace HE := Lib.hid (HE.out.below hb)
    replace HI := Lib.hid (HI.out.below hb)
    replace HO9 := Lib.hid (HO9.out.below hb)
    clear hb
    go_wp2_with fail
    go_ret
    exact ⟨rfl, J.out.below⟩

end Go.Proofs.YthedglfocjljjaaGreatDoor
