/-
  The law StateMerges: its walk.
-/
import Derived.Test.YthedglfocjljjaaGreatDoorExm
import Derived.Test.YthedglfocjljjaaGreatDoorSmt
import Derived.Test.YthedglfocjljjaaGreatDoorSrm
namespace Go.Proofs.YthedglfocjljjaaGreatDoor
open Go.RowKit

set_option maxRecDepth 100000 in
set_option maxHeartbeats 16000000 in
theorem merges_walk {w : World} (T : Trf.Tab w) {c p : St} {L M : List Bv} {vb vd vo vi vc ub ud uo ui uc : Value} (h : StAt w c L vb vd vo vi vc) (g : StAt w p M ub ud uo ui uc) :
    Calls Tryz.prog 4 #[stV c vb vd vo vi vc, stV p ub ud uo ui uc] w fun e w' => e = .returned (.bool true) ∧ Below w.heap.size w w' := by
  obtain ⟨A1, c1, rfl, h11, h21⟩ := h.bf.shape
  obtain ⟨Ad1, cd1, rfl, hd11, hd21⟩ := h.dm.shape
  obtain ⟨Ao1, co1, rfl, ho11, ho21⟩ := h.op.shape
  obtain ⟨Ai1, ci1, rfl, hi11, hi21⟩ := h.ip.shape
  obtain ⟨Ac1, cc1, rfl, hc11, hc21⟩ := h.cb.shape
  obtain ⟨A2, c2, rfl, h12, h22⟩ := g.bf.shape
  obtain ⟨Ad2, cd2, rfl, hd12, hd22⟩ := g.dm.shape
  obtain ⟨Ao2, co2, rfl, ho12, ho22⟩ := g.op.shape
  obtain ⟨Ai2, ci2, rfl, hi12, hi22⟩ := g.ip.shape
  obtain ⟨Ac2, cc2, rfl, hc12, hc22⟩ := g.cb.shape
  have HC := Lib.hid h
  have HP := Lib.hid g
  have HT := Lib.hid T
  have CL := fun (W : World) (h : StAt W c L (.slice A1 L.length c1) (.slice Ad1 c.dm.length cd1) (.slice Ao1 c.op.length co1) (.slice Ai1 c.ip.length ci1) (.slice Ac1 c.cb.length cc1)) => Lib.hid (light_any h)
  have PL := fun (W : World) (h : StAt W p M (.slice A2 M.length c2) (.slice Ad2 p.dm.length cd2) (.slice Ao2 p.op.length co2) (.slice Ai2 p.ip.length ci2) (.slice Ac2 p.cb.length cc2)) => Lib.hid (light_any h)
  have CE := fun (W : World) (T : Trf.Tab W) => Lib.hid (ex_any T)
  have J := Lib.hid (show HO w _ [boxO (w.heap.size + 1) (stC p (.slice A2 M.length c2) (.slice Ad2 p.dm.length cd2) (.slice Ao2 p.op.length co2) (.slice Ai2 p.ip.length ci2) (.slice Ac2 p.cb.length cc2)), boxO w.heap.size (stC c (.slice A1 L.length c1) (.slice Ad1 c.dm.length cd1) (.slice Ao1 c.op.length co1) (.slice Ai1 c.ip.length ci1) (.slice Ac1 c.cb.length cc1))] from by
    have h := ((HO.nil w).alloc (stC c (.slice A1 L.length c1) (.slice Ad1 c.dm.length cd1) (.slice Ao1 c.op.length co1) (.slice Ai1 c.ip.length ci1) (.slice Ac1 c.cb.length cc1)) 28).alloc (stC p (.slice A2 M.length c2) (.slice Ad2 p.dm.length cd2) (.slice Ao2 p.op.length co2) (.slice Ai2 p.ip.length ci2) (.slice Ac2 p.cb.length cc2)) 28
    simp only [World.size_alloc] at h
    exact h)
  have hb := J.out.below
  replace HC := Lib.hid (HC.out.below hb)
  replace HP := Lib.hid (HP.out.below hb)
  replace HT := Lib.hid (HT.out.below hb)
  clear h g T hb
  cases hl : lightB c with
  | false =>
    rw [hl] at CL
    clear hl
    go_enter Tryz.func4, Tryz.ntmps4
    obtain ⟨q1_0, q1_1, q1_2, q1_3, q1_4, q1_5, q1_6, q1_7, q1_8, q1_9, q1_10, q1_f, q1_l⟩ := (show HO w _ ([_] ++ boxO w.heap.size [_, _, _, _, _, _, _, _, _, _, _] :: _) from J.out).c11
    obtain ⟨q2_0, q2_1, q2_2, q2_3, q2_4, q2_5, q2_6, q2_7, q2_8, q2_9, q2_10, q2_f, q2_l⟩ := (show HO w _ ([] ++ boxO (w.heap.size + 1) [_, _, _, _, _, _, _, _, _, _, _] :: _) from J.out).c11
    go_wp2_with fail
    refine (CL _ HC.out).out.mono ?_
    rintro e v3 ⟨rfl, hb⟩
    replace J := Lib.hid (J.out.step hb)
    replace HC := Lib.hid (HC.out.below hb)
    replace HP := Lib.hid (HP.out.below hb)
    replace HT := Lib.hid (HT.out.below hb)
    clear hb
    clear q1_0 q1_1 q1_2 q1_3 q1_4 q1_5 q1_6 q1_7 q1_8 q1_9 q1_10 q1_f q1_l q2_0 q2_1 q2_2 q2_3 q2_4 q2_5 q2_6 q2_7 q2_8 q2_9 q2_10 q2_f q2_l
    obtain ⟨q4_0, q4_1, q4_2, q4_3, q4_4, q4_5, q4_6, q4_7, q4_8, q4_9, q4_10, q4_f, q4_l⟩ := (show HO w _ ([_] ++ boxO w.heap.size [_, _, _, _, _, _, _, _, _, _, _] :: _) from J.out).c11
    obtain ⟨q5_0, q5_1, q5_2, q5_3, q5_4, q5_5, q5_6, q5_7, q5_8, q5_9, q5_10, q5_f, q5_l⟩ := (show HO w _ ([] ++ boxO (w.heap.size + 1) [_, _, _, _, _, _, _, _, _, _, _] :: _) from J.out).c11
    go_wp2_with fail
    refine (CE _ HT.out).out.mono ?_
    rintro e v6 ⟨rfl, hb⟩
    replace J := Lib.hid (J.out.step hb)
    replace HC := Lib.hid (HC.out.below hb)
    replace HP := Lib.hid (HP.out.below hb)
    replace HT := Lib.hid (HT.out.below hb)
    clear hb
    clear q4_0 q4_1 q4_2 q4_3 q4_4 q4_5 q4_6 q4_7 q4_8 q4_9 q4_10 q4_f q4_l q5_0 q5_1 q5_2 q5_3 q5_4 q5_5 q5_6 q5_7 q5_8 q5_9 q5_10 q5_f q5_l
    go_wp2_with fail
    go_ret
    exact ⟨rfl, J.out.below⟩
  | true =>
    rw [hl] at CL
    cases hm : lightB p with
    | false =>
      rw [hm] at PL
      clear hl hm
      go_enter Tryz.func4, Tryz.ntmps4
      obtain ⟨q1_0, q1_1, q1_2, q1_3, q1_4, q1_5, q1_6, q1_7, q1_8, q1_9, q1_10, q1_f, q1_l⟩ := (show HO w _ ([_] ++ boxO w.heap.size [_, _, _, _, _, _, _, _, _, _, _] :: _) from J.out).c11
      obtain ⟨q2_0, q2_1, q2_2, q2_3, q2_4, q2_5, q2_6, q2_7, q2_8, q2_9, q2_10, q2_f, q2_l⟩ := (show HO w _ ([] ++ boxO (w.heap.size + 1) [_, _, _, _, _, _, _, _, _, _, _] :: _) from J.out).c11
      go_wp2_with fail
      refine (CL _ HC.out).out.mono ?_
      rintro e v3 ⟨rfl, hb⟩
      replace J := Lib.hid (J.out.step hb)
      replace HC := Lib.hid (HC.out.below hb)
      replace HP := Lib.hid (HP.out.below hb)
      replace HT := Lib.hid (HT.out.below hb)
      clear hb
      clear q1_0 q1_1 q1_2 q1_3 q1_4 q1_5 q1_6 q1_7 q1_8 q1_9 q1_10 q1_f q1_l q2_0 q2_1 q2_2 q2_3 q2_4 q2_5 q2_6 q2_7 q2_8 q2_9 q2_10 q2_f q2_l
      obtain ⟨q4_0, q4_1, q4_2, q4_3, q4_4, q4_5, q4_6, q4_7, q4_8, q4_9, q4_10, q4_f, q4_l⟩ := (show HO w _ ([_] ++ boxO w.heap.size [_, _, _, _, _, _, _, _, _, _, _] :: _) from J.out).c11
      obtain ⟨q5_0, q5_1, q5_2, q5_3, q5_4, q5_5, q5_6, q5_7, q5_8, q5_9, q5_10, q5_f, q5_l⟩ := (show HO w _ ([] ++ boxO (w.heap.size + 1) [_, _, _, _, _, _, _, _, _, _, _] :: _) from J.out).c11
      go_wp2_with fail
      refine (PL _ HP.out).out.mono ?_
      rintro e v6 ⟨rfl, hb⟩
      replace J := Lib.hid (J.out.step hb)
      replace HC := Lib.hid (HC.out.below hb)
      replace HP := Lib.hid (HP.out.below hb)
      replace HT := Lib.hid (HT.out.below hb)
      clear hb
      clear q4_0 q4_1 q4_2 q4_3 q4_4 q4_5 q4_6 q4_7 q4_8 q4_9 q4_10 q4_f q4_l q5_0 q5_1 q5_2 q5_3 q5_4 q5_5 q5_6 q5_7 q5_8 q5_9 q5_10 q5_f q5_l
      obtain ⟨q7_0, q7_1, q7_2, q7_3, q7_4, q7_5, q7_6, q7_7, q7_8, q7_9, q7_10, q7_f, q7_l⟩ := (show HO w _ ([_] ++ boxO w.heap.size [_, _, _, _, _, _, _, _, _, _, _] :: _) from J.out).c11
      obtain ⟨q8_0, q8_1, q8_2, q8_3, q8_4, q8_5, q8_6, q8_7, q8_8, q8_9, q8_10, q8_f, q8_l⟩ := (show HO w _ ([] ++ boxO (w.heap.size + 1) [_, _, _, _, _, _, _, _, _, _, _] :: _) from J.out).c11
      go_wp2_with fail
      refine (CE _ HT.out).out.mono ?_
      rintro e v9 ⟨rfl, hb⟩
      replace J := Lib.hid (J.out.step hb)
      replace HC := Lib.hid (HC.out.below hb)
      replace HP := Lib.hid (HP.out.below hb)
      replace HT := Lib.hid (HT.out.below hb)
      clear hb
      clear q7_0 q7_1 q7_2 q7_3 q7_4 q7_5 q7_6 q7_7 q7_8 q7_9 q7_10 q7_f q7_l q8_0 q8_1 q8_2 q8_3 q8_4 q8_5 q8_6 q8_7 q8_8 q8_9 q8_10 q8_f q8_l
      go_wp2_with fail
      go_ret
      exact ⟨rfl, J.out.below⟩
    | true =>
      rw [hm] at PL
      have hf := (light_sml hl).mrg (light_sml hm)
      have hfc := light_few hl
      have hfp := light_few hm
      have CM := fun (W : World) (h : StAt W c L (.slice A1 L.length c1) (.slice Ad1 c.dm.length cd1) (.slice Ao1 c.op.length co1) (.slice Ai1 c.ip.length ci1) (.slice Ac1 c.cb.length cc1)) (g : StAt W p M (.slice A2 M.length c2) (.slice Ad2 p.dm.length cd2) (.slice Ao2 p.op.length co2) (.slice Ai2 p.ip.length ci2) (.slice Ac2 p.cb.length cc2)) => Lib.hid (merge_any rg h g (Nat.le_trans hfc.cb (by decide)) (Nat.le_trans hfp.cb (by decide)) (hf.few (by decide)))
      have RM := fun (W : World) (h : StAt W c L (.slice A1 L.length c1) (.slice Ad1 c.dm.length cd1) (.slice Ao1 c.op.length co1) (.slice Ai1 c.ip.length ci1) (.slice Ac1 c.cb.length cc1)) (g : StAt W p M (.slice A2 M.length c2) (.slice Ad2 p.dm.length cd2) (.slice Ao2 p.op.length co2) (.slice Ai2 p.ip.length ci2) (.slice Ac2 p.cb.length cc2)) => Lib.hid (rmerge_any h g hfc hfp (hf.few (by decide)))
      unfold MrO at CM RM
      generalize mrgR c p = r at *
      obtain ⟨m, kc⟩ := r
      dsimp only at CM RM
      clear hl hm hf hfc hfp
      go_enter Tryz.func4, Tryz.ntmps4
      obtain ⟨q1_0, q1_1, q1_2, q1_3, q1_4, q1_5, q1_6, q1_7, q1_8, q1_9, q1_10, q1_f, q1_l⟩ := (show HO w _ ([_] ++ boxO w.heap.size [_, _, _, _, _, _, _, _, _, _, _] :: _) from J.out).c11
      obtain ⟨q2_0, q2_1, q2_2, q2_3, q2_4, q2_5, q2_6, q2_7, q2_8, q2_9, q2_10, q2_f, q2_l⟩ := (show HO w _ ([] ++ boxO (w.heap.size + 1) [_, _, _, _, _, _, _, _, _, _, _] :: _) from J.out).c11
      go_wp2_with fail
      refine (CL _ HC.out).out.mono ?_
      rintro e v3 ⟨rfl, hb⟩
      replace J := Lib.hid (J.out.step hb)
      replace HC := Lib.hid (HC.out.below hb)
      replace HP := Lib.hid (HP.out.below hb)
      replace HT := Lib.hid (HT.out.below hb)
      clear hb
      clear q1_0 q1_1 q1_2 q1_3 q1_4 q1_5 q1_6 q1_7 q1_8 q1_9 q1_10 q1_f q1_l q2_0 q2_1 q2_2 q2_3 q2_4 q2_5 q2_6 q2_7 q2_8 q2_9 q2_10 q2_f q2_l
      obtain ⟨q4_0, q4_1, q4_2, q4_3, q4_4, q4_5, q4_6, q4_7, q4_8, q4_9, q4_10, q4_f, q4_l⟩ := (show HO w _ ([_] ++ boxO w.heap.size [_, _, _, _, _, _, _, _, _, _, _] :: _) from J.out).c11
      obtain ⟨q5_0, q5_1, q5_2, q5_3, q5_4, q5_5, q5_6, q5_7, q5_8, q5_9, q5_10, q5_f, q5_l⟩ := (show HO w _ ([] ++ boxO (w.heap.size + 1) [_, _, _, _, _, _, _, _, _, _, _] :: _) from J.out).c11
      go_wp2_with fail
      refine (PL _ HP.out).out.mono ?_
      rintro e v6 ⟨rfl, hb⟩
      replace J := Lib.hid (J.out.step hb)
      replace HC := Lib.hid (HC.out.below hb)
      replace HP := Lib.hid (HP.out.below hb)
      replace HT := Lib.hid (HT.out.below hb)
      clear hb
      clear q4_0 q4_1 q4_2 q4_3 q4_4 q4_5 q4_6 q4_7 q4_8 q4_9 q4_10 q4_f q4_l q5_0 q5_1 q5_2 q5_3 q5_4 q5_5 q5_6 q5_7 q5_8 q5_9 q5_10 q5_f q5_l
      obtain ⟨q7_0, q7_1, q7_2, q7_3, q7_4, q7_5, q7_6, q7_7, q7_8, q7_9, q7_10, q7_f, q7_l⟩ := (show HO w _ ([_] ++ boxO w.heap.size [_, _, _, _, _, _, _, _, _, _, _] :: _) from J.out).c11
      obtain ⟨q8_0, q8_1, q8_2, q8_3, q8_4, q8_5, q8_6, q8_7, q8_8, q8_9, q8_10, q8_f, q8_l⟩ := (show HO w _ ([] ++ boxO (w.heap.size + 1) [_, _, _, _, _, _, _, _, _, _, _] :: _) from J.out).c11
      go_wp2_with fail
      refine (CM _ HC.out HP.out).out.mono ?_
      rintro e v9 ⟨L3, vb3, vd3, vo3, vi3, vc3, rfl, hm, hb⟩
      obtain ⟨A3, c3, g1, -, -⟩ := hm.bf.shape
      obtain ⟨Ad3, cd3, g2, -, -⟩ := hm.dm.shape
      obtain ⟨Ao3, co3, g3, -, -⟩ := hm.op.shape
      obtain ⟨Ai3, ci3, g4, -, -⟩ := hm.ip.shape
      obtain ⟨Ac3, cc3, g5, -, -⟩ := hm.cb.shape
      subst g1 g2 g3 g4 g5
      have HX := Lib.hid hm
      replace J := Lib.hid ((J.out.step hb).alloc (stC m (.slice A3 L3.length c3) (.slice Ad3 m.dm.length cd3) (.slice Ao3 m.op.length co3) (.slice Ai3 m.ip.length ci3) (.slice Ac3 m.cb.length cc3)) 28)
      replace HC := Lib.hid (HC.out.below hb)
      replace HP := Lib.hid (HP.out.below hb)
      replace HT := Lib.hid (HT.out.below hb)
      have hb9 := (Below.refl v9.heap.size v9).alloc (Nat.le_refl _) (.cells ((stC m (.slice A3 L3.length c3) (.slice Ad3 m.dm.length cd3) (.slice Ao3 m.op.length co3) (.slice Ai3 m.ip.length ci3) (.slice Ac3 m.cb.length cc3))).toArray 28)
      replace HC := Lib.hid (HC.out.below hb9)
      replace HP := Lib.hid (HP.out.below hb9)
      replace HT := Lib.hid (HT.out.below hb9)
      replace HX := Lib.hid (HX.out.below hb9)
      clear hb hb9 hm CM
      clear q7_0 q7_1 q7_2 q7_3 q7_4 q7_5 q7_6 q7_7 q7_8 q7_9 q7_10 q7_f q7_l q8_0 q8_1 q8_2 q8_3 q8_4 q8_5 q8_6 q8_7 q8_8 q8_9 q8_10 q8_f q8_l
      go_upto_region 4 with fail
      generalize v9.alloc (.cells #[.int .i64 m.set, .slice A3 L3.length c3, .int .i64 m.sc, .int .i64 m.tr, .slice Ad3 m.dm.length cd3, .slice Ao3 m.op.length co3, .bool m.is, .slice Ai3 m.ip.length ci3, .int .i64 m.dx, .int .i64 m.dy, .slice Ac3 m.cb.length cc3] 28) = v10 at *
      generalize v9.heap.size = k10 at *
      obtain ⟨q11_0, q11_1, q11_2, q11_3, q11_4, q11_5, q11_6, q11_7, q11_8, q11_9, q11_10, q11_f, q11_l⟩ := (show HO w _ ([_, _] ++ boxO w.heap.size [_, _, _, _, _, _, _, _, _, _, _] :: _) from J.out).c11
      obtain ⟨q12_0, q12_1, q12_2, q12_3, q12_4, q12_5, q12_6, q12_7, q12_8, q12_9, q12_10, q12_f, q12_l⟩ := (show HO w _ ([_] ++ boxO (w.heap.size + 1) [_, _, _, _, _, _, _, _, _, _, _] :: _) from J.out).c11
      go_wp2_with fail
      refine (RM _ HC.out HP.out).out.mono ?_
      rintro e v13 ⟨L4, vb4, vd4, vo4, vi4, vc4, rfl, hm, hb⟩
      obtain ⟨A4, c4, g1, -, -⟩ := hm.bf.shape
      obtain ⟨Ad4, cd4, g2, -, -⟩ := hm.dm.shape
      obtain ⟨Ao4, co4, g3, -, -⟩ := hm.op.shape
      obtain ⟨Ai4, ci4, g4, -, -⟩ := hm.ip.shape
      obtain ⟨Ac4, cc4, g5, -, -⟩ := hm.cb.shape
      subst g1 g2 g3 g4 g5
      have HY := Lib.hid hm
      replace J := Lib.hid ((J.out.step hb).alloc (stC m (.slice A4 L4.length c4) (.slice Ad4 m.dm.length cd4) (.slice Ao4 m.op.length co4) (.slice Ai4 m.ip.length ci4) (.slice Ac4 m.cb.length cc4)) 28)
      replace HC := Lib.hid (HC.out.below hb)
      replace HP := Lib.hid (HP.out.below hb)
      replace HT := Lib.hid (HT.out.below hb)
      replace HX := Lib.hid (HX.out.below hb)
      have hb9 := (Below.refl v13.heap.size v13).alloc (Nat.le_refl _) (.cells ((stC m (.slice A4 L4.length c4) (.slice Ad4 m.dm.length cd4) (.slice Ao4 m.op.length co4) (.slice Ai4 m.ip.length ci4) (.slice Ac4 m.cb.length cc4))).toArray 28)
      replace HC := Lib.hid (HC.out.below hb9)
      replace HP := Lib.hid (HP.out.below hb9)
      replace HT := Lib.hid (HT.out.below hb9)
      replace HX := Lib.hid (HX.out.below hb9)
      replace HY := Lib.hid (HY.out.below hb9)
      clear hb hb9 hm RM
      clear q11_0 q11_1 q11_2 q11_3 q11_4 q11_5 q11_6 q11_7 q11_8 q11_9 q11_10 q11_f q11_l q12_0 q12_1 q12_2 q12_3 q12_4 q12_5 q12_6 q12_7 q12_8 q12_9 q12_10 q12_f q12_l
      go_upto_region 5 with fail
      generalize v13.alloc (.cells #[.int .i64 m.set, .slice A4 L4.length c4, .int .i64 m.sc, .int .i64 m.tr, .slice Ad4 m.dm.length cd4, .slice Ao4 m.op.length co4, .bool m.is, .slice Ai4 m.ip.length ci4, .int .i64 m.dx, .int .i64 m.dy, .slice Ac4 m.cb.length cc4] 28) = v14 at *
      generalize v13.heap.size = k14 at *
      have CS := Lib.hid (rsame_any HX.out HY.out)
      obtain ⟨q15_0, q15_1, q15_2, q15_3, q15_4, q15_5, q15_6, q15_7, q15_8, q15_9, q15_10, q15_f, q15_l⟩ := (show HO w _ ([_] ++ boxO k10 [_, _, _, _, _, _, _, _, _, _, _] :: _) from J.out).c11
      obtain ⟨q16_0, q16_1, q16_2, q16_3, q16_4, q16_5, q16_6, q16_7, q16_8, q16_9, q16_10, q16_f, q16_l⟩ := (show HO w _ ([] ++ boxO k14 [_, _, _, _, _, _, _, _, _, _, _] :: _) from J.out).c11
      go_wp2_with fail
      refine (CS).out.mono ?_
      rintro e v17 ⟨rfl, hb⟩
      replace J := Lib.hid (J.out.step hb)
      replace HC := Lib.hid (HC.out.below hb)
      replace HP := Lib.hid (HP.out.below hb)
      replace HT := Lib.hid (HT.out.below hb)
      replace HX := Lib.hid (HX.out.below hb)
      replace HY := Lib.hid (HY.out.below hb)
      clear hb CS
      clear q15_0 q15_1 q15_2 q15_3 q15_4 q15_5 q15_6 q15_7 q15_8 q15_9 q15_10 q15_f q15_l q16_0 q16_1 q16_2 q16_3 q16_4 q16_5 q16_6 q16_7 q16_8 q16_9 q16_10 q16_f q16_l
      go_wp2_with fail
      refine (CE _ HT.out).out.mono ?_
      rintro e v18 ⟨rfl, hb⟩
      replace J := Lib.hid (J.out.step hb)
      replace HC := Lib.hid (HC.out.below hb)
      replace HP := Lib.hid (HP.out.below hb)
      replace HT := Lib.hid (HT.out.below hb)
      replace HX := Lib.hid (HX.out.below hb)
      replace HY := Lib.hid (HY.out.below hb)
      clear hb
      go_wp2_with fail
      go_ret
      exact ⟨rfl, J.out.below⟩

end Go.Proofs.YthedglfocjljjaaGreatDoor
