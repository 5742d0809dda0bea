/-
  The law StateEmptyMerge: its walk.
-/
import Derived.Test.YthedglfocjljjaaGreatDoorExm
import Derived.Test.YthedglfocjljjaaGreatDoorSmu
import Derived.Test.YthedglfocjljjaaGreatDoorSrh
namespace Go.Proofs.YthedglfocjljjaaGreatDoor
open Go.RowKit

theorem st_set {W : World} {s : St} {L : List Bv} {vb vd vo vi vc : Value} (h : StAt W s L vb vd vo vi vc) (x : Int) : StAt W { s with set := x } L vb vd vo vi vc := ⟨h.bf, h.px, h.eq, h.dm, h.op, h.ip, h.cb⟩
theorem st_clr {W : World} {s : St} {L : List Bv} {vb vd vo vi vc : Value} (h : StAt W s L vb vd vo vi vc) : StAt W { s with set := 0, dm := [] } L vb (.slice none 0 0) vo vi vc := ⟨h.bf, h.px, h.eq, sn_nil _ _, h.op, h.ip, h.cb⟩
theorem Sml.set {n : Nat} {s : St} (h : Sml n s) (x : Int) : Sml n { s with set := x } := ⟨h.dm, h.op, h.ip, h.bf, h.px, h.cb⟩
set_option maxRecDepth 100000 in
set_option maxHeartbeats 16000000 in
theorem empty_walk {w : World} (T : Trf.Tab w) {c p : St} {L M : List Bv} {vb vd vo vi vc ub ud uo ui uc : Value} (h : StAt w c L vb vd vo vi vc) (g : StAt w p M ub ud uo ui uc) :
    Calls Tryz.prog 7 #[stV c vb vd vo vi vc, stV p ub ud uo ui uc] w fun e w' => e = .returned (.bool true) ∧ Below w.heap.size w w' := by
  obtain ⟨A1, c1, rfl, h11, h21⟩ := h.bf.shape
  obtain ⟨Ad1, cd1, rfl, hd11, hd21⟩ := h.dm.shape
  obtain ⟨Ao1, co1, rfl, ho11, ho21⟩ := h.op.shape
  obtain ⟨Ai1, ci1, rfl, hi11, hi21⟩ := h.ip.shape
  obtain ⟨Ac1, cc1, rfl, hc11, hc21⟩ := h.cb.shape
  obtain ⟨A2, c2, rfl, h12, h22⟩ := g.bf.shape
  obtain ⟨Ad2, cd2, rfl, hd12, hd22⟩ := g.dm.shape
  obtain ⟨Ao2, co2, rfl, ho12, ho22⟩ := g.op.shape
  obtain ⟨Ai2, ci2, rfl, hi12, hi22⟩ := g.ip.shape
  obtain ⟨Ac2, cc2, rfl, hc12, hc22⟩ := g.cb.shape
  have HC := Lib.hid h
  have HP := Lib.hid g
  have HT := Lib.hid T
  have HC0 := Lib.hid h
  have HP0 := Lib.hid g
  have HT0 := Lib.hid T
  have CL := fun (W : World) (h : StAt W c L (.slice A1 L.length c1) (.slice Ad1 c.dm.length cd1) (.slice Ao1 c.op.length co1) (.slice Ai1 c.ip.length ci1) (.slice Ac1 c.cb.length cc1)) => Lib.hid (light_any h)
  have PL := fun (W : World) (h : StAt W p M (.slice A2 M.length c2) (.slice Ad2 p.dm.length cd2) (.slice Ao2 p.op.length co2) (.slice Ai2 p.ip.length ci2) (.slice Ac2 p.cb.length cc2)) => Lib.hid (light_any h)
  have CE := fun (W : World) (T : Trf.Tab W) => Lib.hid (ex_any T)
  have J := Lib.hid (show HO w _ [boxO (w.heap.size + 1) (stC p (.slice A2 M.length c2) (.slice Ad2 p.dm.length cd2) (.slice Ao2 p.op.length co2) (.slice Ai2 p.ip.length ci2) (.slice Ac2 p.cb.length cc2)), boxO w.heap.size (stC c (.slice A1 L.length c1) (.slice Ad1 c.dm.length cd1) (.slice Ao1 c.op.length co1) (.slice Ai1 c.ip.length ci1) (.slice Ac1 c.cb.length cc1))] from by
    have h := ((HO.nil w).alloc (stC c (.slice A1 L.length c1) (.slice Ad1 c.dm.length cd1) (.slice Ao1 c.op.length co1) (.slice Ai1 c.ip.length ci1) (.slice Ac1 c.cb.length cc1)) 28).alloc (stC p (.slice A2 M.length c2) (.slice Ad2 p.dm.length cd2) (.slice Ao2 p.op.length co2) (.slice Ai2 p.ip.length ci2) (.slice Ac2 p.cb.length cc2)) 28
    simp only [World.size_alloc] at h
    exact h)
  have hb := J.out.below
  replace HC := Lib.hid (HC.out.below hb)
  replace HP := Lib.hid (HP.out.below hb)
  replace HT := Lib.hid (HT.out.below hb)
  clear h g T hb
  cases hl : lightB c with
  | false =>
    rw [hl] at CL
    clear hl
    go_enter Tryz.func7, Tryz.ntmps7
    obtain ⟨q1_0, q1_1, q1_2, q1_3, q1_4, q1_5, q1_6, q1_7, q1_8, q1_9, q1_10, q1_f, q1_l⟩ := (show HO w _ ([_] ++ boxO w.heap.size [_, _, _, _, _, _, _, _, _, _, _] :: _) from J.out).c11
    obtain ⟨q2_0, q2_1, q2_2, q2_3, q2_4, q2_5, q2_6, q2_7, q2_8, q2_9, q2_10, q2_f, q2_l⟩ := (show HO w _ ([] ++ boxO (w.heap.size + 1) [_, _, _, _, _, _, _, _, _, _, _] :: _) from J.out).c11
    go_wp2_with fail
    refine (CL _ HC.out).out.mono ?_
    rintro e v3 ⟨rfl, hb⟩
    replace J := Lib.hid (J.out.step hb)
    replace HC := Lib.hid (HC.out.below hb)
    replace HP := Lib.hid (HP.out.below hb)
    replace HT := Lib.hid (HT.out.below hb)
    clear hb
    clear q1_0 q1_1 q1_2 q1_3 q1_4 q1_5 q1_6 q1_7 q1_8 q1_9 q1_10 q1_f q1_l q2_0 q2_1 q2_2 q2_3 q2_4 q2_5 q2_6 q2_7 q2_8 q2_9 q2_10 q2_f q2_l
    obtain ⟨q4_0, q4_1, q4_2, q4_3, q4_4, q4_5, q4_6, q4_7, q4_8, q4_9, q4_10, q4_f, q4_l⟩ := (show HO w _ ([_] ++ boxO w.heap.size [_, _, _, _, _, _, _, _, _, _, _] :: _) from J.out).c11
    obtain ⟨q5_0, q5_1, q5_2, q5_3, q5_4, q5_5, q5_6, q5_7, q5_8, q5_9, q5_10, q5_f, q5_l⟩ := (show HO w _ ([] ++ boxO (w.heap.size + 1) [_, _, _, _, _, _, _, _, _, _, _] :: _) from J.out).c11
    go_wp2_with fail
    refine (CE _ HT.out).out.mono ?_
    rintro e v6 ⟨rfl, hb⟩
    replace J := Lib.hid (J.out.step hb)
    replace HC := Lib.hid (HC.out.below hb)
    replace HP := Lib.hid (HP.out.below hb)
    replace HT := Lib.hid (HT.out.below hb)
    clear hb
    clear q4_0 q4_1 q4_2 q4_3 q4_4 q4_5 q4_6 q4_7 q4_8 q4_9 q4_10 q4_f q4_l q5_0 q5_1 q5_2 q5_3 q5_4 q5_5 q5_6 q5_7 q5_8 q5_9 q5_10 q5_f q5_l
    go_wp2_with fail
    go_ret
    exact ⟨rfl, J.out.below⟩
  | true =>
    rw [hl] at CL
    cases hm : lightB p with
    | false =>
      rw [hm] at PL
      clear hl hm
      go_enter Tryz.func7, Tryz.ntmps7
      obtain ⟨q1_0, q1_1, q1_2, q1_3, q1_4, q1_5, q1_6, q1_7, q1_8, q1_9, q1_10, q1_f, q1_l⟩ := (show HO w _ ([_] ++ boxO w.heap.size [_, _, _, _, _, _, _, _, _, _, _] :: _) from J.out).c11
      obtain ⟨q2_0, q2_1, q2_2, q2_3, q2_4, q2_5, q2_6, q2_7, q2_8, q2_9, q2_10, q2_f, q2_l⟩ := (show HO w _ ([] ++ boxO (w.heap.size + 1) [_, _, _, _, _, _, _, _, _, _, _] :: _) from J.out).c11
      go_wp2_with fail
      refine (CL _ HC.out).out.mono ?_
      rintro e v3 ⟨rfl, hb⟩
      replace J := Lib.hid (J.out.step hb)
      replace HC := Lib.hid (HC.out.below hb)
      replace HP := Lib.hid (HP.out.below hb)
      replace HT := Lib.hid (HT.out.below hb)
      clear hb
      clear q1_0 q1_1 q1_2 q1_3 q1_4 q1_5 q1_6 q1_7 q1_8 q1_9 q1_10 q1_f q1_l q2_0 q2_1 q2_2 q2_3 q2_4 q2_5 q2_6 q2_7 q2_8 q2_9 q2_10 q2_f q2_l
      obtain ⟨q4_0, q4_1, q4_2, q4_3, q4_4, q4_5, q4_6, q4_7, q4_8, q4_9, q4_10, q4_f, q4_l⟩ := (show HO w _ ([_] ++ boxO w.heap.size [_, _, _, _, _, _, _, _, _, _, _] :: _) from J.out).c11
      obtain ⟨q5_0, q5_1, q5_2, q5_3, q5_4, q5_5, q5_6, q5_7, q5_8, q5_9, q5_10, q5_f, q5_l⟩ := (show HO w _ ([] ++ boxO (w.heap.size + 1) [_, _, _, _, _, _, _, _, _, _, _] :: _) from J.out).c11
      go_wp2_with fail
      refine (PL _ HP.out).out.mono ?_
      rintro e v6 ⟨rfl, hb⟩
      replace J := Lib.hid (J.out.step hb)
      replace HC := Lib.hid (HC.out.below hb)
      replace HP := Lib.hid (HP.out.below hb)
      replace HT := Lib.hid (HT.out.below hb)
      clear hb
      clear q4_0 q4_1 q4_2 q4_3 q4_4 q4_5 q4_6 q4_7 q4_8 q4_9 q4_10 q4_f q4_l q5_0 q5_1 q5_2 q5_3 q5_4 q5_5 q5_6 q5_7 q5_8 q5_9 q5_10 q5_f q5_l
      obtain ⟨q7_0, q7_1, q7_2, q7_3, q7_4, q7_5, q7_6, q7_7, q7_8, q7_9, q7_10, q7_f, q7_l⟩ := (show HO w _ ([_] ++ boxO w.heap.size [_, _, _, _, _, _, _, _, _, _, _] :: _) from J.out).c11
      obtain ⟨q8_0, q8_1, q8_2, q8_3, q8_4, q8_5, q8_6, q8_7, q8_8, q8_9, q8_10, q8_f, q8_l⟩ := (show HO w _ ([] ++ boxO (w.heap.size + 1) [_, _, _, _, _, _, _, _, _, _, _] :: _) from J.out).c11
      go_wp2_with fail
      refine (CE _ HT.out).out.mono ?_
      rintro e v9 ⟨rfl, hb⟩
      replace J := Lib.hid (J.out.step hb)
      replace HC := Lib.hid (HC.out.below hb)
      replace HP := Lib.hid (HP.out.below hb)
      replace HT := Lib.hid (HT.out.below hb)
      clear hb
      clear q7_0 q7_1 q7_2 q7_3 q7_4 q7_5 q7_6 q7_7 q7_8 q7_9 q7_10 q7_f q7_l q8_0 q8_1 q8_2 q8_3 q8_4 q8_5 q8_6 q8_7 q8_8 q8_9 q8_10 q8_f q8_l
      go_wp2_with fail
      go_ret
      exact ⟨rfl, J.out.below⟩
    | true =>
      rw [hm] at PL
      have hsc := light_sml hl
      have hsp := light_sml hm
      have RK := fun (W : World) (h : StAt W c L (.slice A1 L.length c1) (.slice Ad1 c.dm.length cd1) (.slice Ao1 c.op.length co1) (.slice Ai1 c.ip.length ci1) (.slice Ac1 c.cb.length cc1)) => Lib.hid (rchk_any h (hsc.few (by decide)))
      by_cases hk : chkS c = 0
      · rw [hk] at RK
        have CM0 := fun (W : World) (h : StAt W c L (.slice A1 L.length c1) (.slice Ad1 c.dm.length cd1) (.slice Ao1 c.op.length co1) (.slice Ai1 c.ip.length ci1) (.slice Ac1 c.cb.length cc1)) (g : StAt W { p with set := 0 } M (.slice A2 M.length c2) (.slice Ad2 p.dm.length cd2) (.slice Ao2 p.op.length co2) (.slice Ai2 p.ip.length ci2) (.slice Ac2 p.cb.length cc2)) => Lib.hid (merge_any rg h g (Nat.le_trans hsc.cb (by decide)) (Nat.le_trans hsp.cb (by decide)) ((hsc.mrg (hsp.set 0)).few (by decide)))
        obtain ⟨q, hq⟩ : ∃ q, bits .andNot .i64 p.set 128 = q := ⟨_, rfl⟩
        have hq2 : bitB q 128 = false := by rw [← hq]; exact bit_off _
        have CM1 := fun (W : World) (h : StAt W c L (.slice A1 L.length c1) (.slice Ad1 c.dm.length cd1) (.slice Ao1 c.op.length co1) (.slice Ai1 c.ip.length ci1) (.slice Ac1 c.cb.length cc1)) (g : StAt W { p with set := q } M (.slice A2 M.length c2) (.slice Ad2 p.dm.length cd2) (.slice Ao2 p.op.length co2) (.slice Ai2 p.ip.length ci2) (.slice Ac2 p.cb.length cc2)) => Lib.hid (merge_any rg h g (Nat.le_trans hsc.cb (by decide)) (Nat.le_trans hsp.cb (by decide)) ((hsc.mrg (hsp.set q)).few (by decide)))
        unfold MrO at CM0 CM1
        simp only [mrgR_none p hk] at CM0
        have hsn := hsc.mrg (hsp.set q)
        have CM2 := fun (W : World) (LN : List Bv) (vb vd vo vi vc : Value) (h : StAt W (mrgS c { p with set := q }) LN vb vd vo vi vc) (g : StAt W { p with set := q } M (.slice A2 M.length c2) (.slice Ad2 p.dm.length cd2) (.slice Ao2 p.op.length co2) (.slice Ai2 p.ip.length ci2) (.slice Ac2 p.cb.length cc2)) => Lib.hid (merge_any rg h g (Nat.le_trans hsn.cb (by decide)) (Nat.le_trans hsp.cb (by decide)) ((hsn.mrg (hsp.set q)).few (by decide)))
        unfold MrO at CM2
        have ht := fun hkn => mrgR_twice (c := c) (p := { p with set := q }) hq2 hkn
        generalize hm0 : ({ c with set := 0, dm := [] } : St) = m0 at CM0
        go_enter Tryz.func7, Tryz.ntmps7
        obtain ⟨q1_0, q1_1, q1_2, q1_3, q1_4, q1_5, q1_6, q1_7, q1_8, q1_9, q1_10, q1_f, q1_l⟩ := (show HO w _ ([_] ++ boxO w.heap.size [_, _, _, _, _, _, _, _, _, _, _] :: _) from J.out).c11
        obtain ⟨q2_0, q2_1, q2_2, q2_3, q2_4, q2_5, q2_6, q2_7, q2_8, q2_9, q2_10, q2_f, q2_l⟩ := (show HO w _ ([] ++ boxO (w.heap.size + 1) [_, _, _, _, _, _, _, _, _, _, _] :: _) from J.out).c11
        go_wp2_with fail
        refine (CL _ HC.out).out.mono ?_
        rintro e v3 ⟨rfl, hb⟩
        replace J := Lib.hid (J.out.step hb)
        replace HC := Lib.hid (HC.out.below hb)
        replace HP := Lib.hid (HP.out.below hb)
        replace HT := Lib.hid (HT.out.below hb)
        clear hb
        clear q1_0 q1_1 q1_2 q1_3 q1_4 q1_5 q1_6 q1_7 q1_8 q1_9 q1_10 q1_f q1_l q2_0 q2_1 q2_2 q2_3 q2_4 q2_5 q2_6 q2_7 q2_8 q2_9 q2_10 q2_f q2_l
        obtain ⟨q4_0, q4_1, q4_2, q4_3, q4_4, q4_5, q4_6, q4_7, q4_8, q4_9, q4_10, q4_f, q4_l⟩ := (show HO w _ ([_] ++ boxO w.heap.size [_, _, _, _, _, _, _, _, _, _, _] :: _) from J.out).c11
        obtain ⟨q5_0, q5_1, q5_2, q5_3, q5_4, q5_5, q5_6, q5_7, q5_8, q5_9, q5_10, q5_f, q5_l⟩ := (show HO w _ ([] ++ boxO (w.heap.size + 1) [_, _, _, _, _, _, _, _, _, _, _] :: _) from J.out).c11
        go_wp2_with fail
        refine (PL _ HP.out).out.mono ?_
        rintro e v6 ⟨rfl, hb⟩
        replace J := Lib.hid (J.out.step hb)
        replace HC := Lib.hid (HC.out.below hb)
        replace HP := Lib.hid (HP.out.below hb)
        replace HT := Lib.hid (HT.out.below hb)
        clear hb
        clear q4_0 q4_1 q4_2 q4_3 q4_4 q4_5 q4_6 q4_7 q4_8 q4_9 q4_10 q4_f q4_l q5_0 q5_1 q5_2 q5_3 q5_4 q5_5 q5_6 q5_7 q5_8 q5_9 q5_10 q5_f q5_l
        obtain ⟨q7_0, q7_1, q7_2, q7_3, q7_4, q7_5, q7_6, q7_7, q7_8, q7_9, q7_10, q7_f, q7_l⟩ := (show HO w _ ([_] ++ boxO w.heap.size [_, _, _, _, _, _, _, _, _, _, _] :: _) from J.out).c11
        obtain ⟨q8_0, q8_1, q8_2, q8_3, q8_4, q8_5, q8_6, q8_7, q8_8, q8_9, q8_10, q8_f, q8_l⟩ := (show HO w _ ([] ++ boxO (w.heap.size + 1) [_, _, _, _, _, _, _, _, _, _, _] :: _) from J.out).c11
        go_wp2_with fail
        refine (RK _ HC.out).out.mono ?_
        rintro e v9 ⟨rfl, hb⟩
        replace J := Lib.hid (J.out.step hb)
        replace HC := Lib.hid (HC.out.below hb)
        replace HP := Lib.hid (HP.out.below hb)
        replace HT := Lib.hid (HT.out.below hb)
        clear hb RK
        clear q7_0 q7_1 q7_2 q7_3 q7_4 q7_5 q7_6 q7_7 q7_8 q7_9 q7_10 q7_f q7_l q8_0 q8_1 q8_2 q8_3 q8_4 q8_5 q8_6 q8_7 q8_8 q8_9 q8_10 q8_f q8_l
        obtain ⟨q10_0, q10_1, q10_2, q10_3, q10_4, q10_5, q10_6, q10_7, q10_8, q10_9, q10_10, q10_f, q10_l⟩ := (show HO w _ ([] ++ boxO (w.heap.size + 1) [_, _, _, _, _, _, _, _, _, _, _] :: _) from J.out).c11
        go_upto_region 5 with fail
        clear q10_0 q10_1 q10_2 q10_3 q10_4 q10_5 q10_6 q10_7 q10_8 q10_9 q10_10 q10_f q10_l
        replace J := Lib.hid (J.out.alloc [.int .i64 0, .slice A2 M.length c2, .int .i64 p.sc, .int .i64 p.tr, .slice Ad2 p.dm.length cd2, .slice Ao2 p.op.length co2, .bool p.is, .slice Ai2 p.ip.length ci2, .int .i64 p.dx, .int .i64 p.dy, .slice Ac2 p.cb.length cc2] 28)
        have hb9 := (Below.refl v9.heap.size v9).alloc (Nat.le_refl _) (.cells ([.int .i64 0, .slice A2 M.length c2, .int .i64 p.sc, .int .i64 p.tr, .slice Ad2 p.dm.length cd2, .slice Ao2 p.op.length co2, .bool p.is, .slice Ai2 p.ip.length ci2, .int .i64 p.dx, .int .i64 p.dy, .slice Ac2 p.cb.length cc2] : List Value).toArray 28)
        replace HC := Lib.hid (HC.out.below hb9)
        replace HP := Lib.hid (HP.out.below hb9)
        replace HT := Lib.hid (HT.out.below hb9)
        clear hb9
        generalize v9.alloc (.cells #[.int .i64 0, .slice A2 M.length c2, .int .i64 p.sc, .int .i64 p.tr, .slice Ad2 p.dm.length cd2, .slice Ao2 p.op.length co2, .bool p.is, .slice Ai2 p.ip.length ci2, .int .i64 p.dx, .int .i64 p.dy, .slice Ac2 p.cb.length cc2] 28) = v11 at *
        generalize v9.heap.size = k11 at *
        obtain ⟨q12_0, q12_1, q12_2, q12_3, q12_4, q12_5, q12_6, q12_7, q12_8, q12_9, q12_10, q12_f, q12_l⟩ := (show HO w _ ([_, _] ++ boxO w.heap.size [_, _, _, _, _, _, _, _, _, _, _] :: _) from J.out).c11
        obtain ⟨q13_0, q13_1, q13_2, q13_3, q13_4, q13_5, q13_6, q13_7, q13_8, q13_9, q13_10, q13_f, q13_l⟩ := (show HO w _ ([] ++ boxO k11 [_, _, _, _, _, _, _, _, _, _, _] :: _) from J.out).c11
        go_wp2_with fail
        refine (CM0 _ HC.out (st_set HP.out 0)).out.mono ?_
        rintro e v14 ⟨L3, vb3, vd3, vo3, vi3, vc3, rfl, hm3, hb⟩
        obtain ⟨A3, c3, g1, -, -⟩ := hm3.bf.shape
        obtain ⟨Ad3, cd3, g2, -, -⟩ := hm3.dm.shape
        obtain ⟨Ao3, co3, g3, -, -⟩ := hm3.op.shape
        obtain ⟨Ai3, ci3, g4, -, -⟩ := hm3.ip.shape
        obtain ⟨Ac3, cc3, g5, -, -⟩ := hm3.cb.shape
        subst g1 g2 g3 g4 g5
        have HX := Lib.hid hm3
        replace J := Lib.hid ((J.out.step hb).alloc (stC m0 (.slice A3 L3.length c3) (.slice Ad3 m0.dm.length cd3) (.slice Ao3 m0.op.length co3) (.slice Ai3 m0.ip.length ci3) (.slice Ac3 m0.cb.length cc3)) 28)
        replace HC := Lib.hid (HC.out.below hb)
        replace HP := Lib.hid (HP.out.below hb)
        replace HT := Lib.hid (HT.out.below hb)
        have hb9 := (Below.refl v14.heap.size v14).alloc (Nat.le_refl _) (.cells ((stC m0 (.slice A3 L3.length c3) (.slice Ad3 m0.dm.length cd3) (.slice Ao3 m0.op.length co3) (.slice Ai3 m0.ip.length ci3) (.slice Ac3 m0.cb.length cc3))).toArray 28)
        replace HC := Lib.hid (HC.out.below hb9)
        replace HP := Lib.hid (HP.out.below hb9)
        replace HT := Lib.hid (HT.out.below hb9)
        replace HX := Lib.hid (HX.out.below hb9)
        clear hb hb9 hm3 CM0
        clear q12_0 q12_1 q12_2 q12_3 q12_4 q12_5 q12_6 q12_7 q12_8 q12_9 q12_10 q12_f q12_l q13_0 q13_1 q13_2 q13_3 q13_4 q13_5 q13_6 q13_7 q13_8 q13_9 q13_10 q13_f q13_l
        go_upto_region 6 with fail
        generalize v14.alloc (.cells #[.int .i64 m0.set, .slice A3 L3.length c3, .int .i64 m0.sc, .int .i64 m0.tr, .slice Ad3 m0.dm.length cd3, .slice Ao3 m0.op.length co3, .bool m0.is, .slice Ai3 m0.ip.length ci3, .int .i64 m0.dx, .int .i64 m0.dy, .slice Ac3 m0.cb.length cc3] 28) = v15 at *
        generalize v14.heap.size = k15 at *
        obtain ⟨q16_0, q16_1, q16_2, q16_3, q16_4, q16_5, q16_6, q16_7, q16_8, q16_9, q16_10, q16_f, q16_l⟩ := (show HO w _ ([_, _, _] ++ boxO w.heap.size [_, _, _, _, _, _, _, _, _, _, _] :: _) from J.out).c11
        go_upto_region 9 with fail
        clear q16_0 q16_1 q16_2 q16_3 q16_4 q16_5 q16_6 q16_7 q16_8 q16_9 q16_10 q16_f q16_l
        replace J := Lib.hid (J.out.alloc [.int .i64 0, .slice A1 L.length c1, .int .i64 c.sc, .int .i64 c.tr, .slice none 0 0, .slice Ao1 c.op.length co1, .bool c.is, .slice Ai1 c.ip.length ci1, .int .i64 c.dx, .int .i64 c.dy, .slice Ac1 c.cb.length cc1] 28)
        have hb9 := (Below.refl v15.heap.size v15).alloc (Nat.le_refl _) (.cells ([.int .i64 0, .slice A1 L.length c1, .int .i64 c.sc, .int .i64 c.tr, .slice none 0 0, .slice Ao1 c.op.length co1, .bool c.is, .slice Ai1 c.ip.length ci1, .int .i64 c.dx, .int .i64 c.dy, .slice Ac1 c.cb.length cc1] : List Value).toArray 28)
        replace HC := Lib.hid (HC.out.below hb9)
        replace HP := Lib.hid (HP.out.below hb9)
        replace HT := Lib.hid (HT.out.below hb9)
        replace HX := Lib.hid (HX.out.below hb9)
        clear hb9
        generalize v15.alloc (.cells #[.int .i64 0, .slice A1 L.length c1, .int .i64 c.sc, .int .i64 c.tr, .slice none 0 0, .slice Ao1 c.op.length co1, .bool c.is, .slice Ai1 c.ip.length ci1, .int .i64 c.dx, .int .i64 c.dy, .slice Ac1 c.cb.length cc1] 28) = v17 at *
        generalize v15.heap.size = k17 at *
        have hw := st_clr HC.out
        rw [hm0] at hw
        have CS := Lib.hid (rsame_any HX.out hw)
        clear hw
        subst hm0
        obtain ⟨q18_0, q18_1, q18_2, q18_3, q18_4, q18_5, q18_6, q18_7, q18_8, q18_9, q18_10, q18_f, q18_l⟩ := (show HO w _ ([_] ++ boxO k15 [_, _, _, _, _, _, _, _, _, _, _] :: _) from J.out).c11
        obtain ⟨q19_0, q19_1, q19_2, q19_3, q19_4, q19_5, q19_6, q19_7, q19_8, q19_9, q19_10, q19_f, q19_l⟩ := (show HO w _ ([] ++ boxO k17 [_, _, _, _, _, _, _, _, _, _, _] :: _) from J.out).c11
        go_wp2_with fail
        refine (CS).out.mono ?_
        rintro e v20 ⟨rfl, hb⟩
        replace J := Lib.hid (J.out.step hb)
        replace HC := Lib.hid (HC.out.below hb)
        replace HP := Lib.hid (HP.out.below hb)
        replace HT := Lib.hid (HT.out.below hb)
        replace HX := Lib.hid (HX.out.below hb)
        clear hb CS
        clear q18_0 q18_1 q18_2 q18_3 q18_4 q18_5 q18_6 q18_7 q18_8 q18_9 q18_10 q18_f q18_l q19_0 q19_1 q19_2 q19_3 q19_4 q19_5 q19_6 q19_7 q19_8 q19_9 q19_10 q19_f q19_l
        obtain ⟨q21_0, q21_1, q21_2, q21_3, q21_4, q21_5, q21_6, q21_7, q21_8, q21_9, q21_10, q21_f, q21_l⟩ := (show HO w _ ([_, _, _] ++ boxO (w.heap.size + 1) [_, _, _, _, _, _, _, _, _, _, _] :: _) from J.out).c11
        go_upto_region 12 with fail
        clear q21_0 q21_1 q21_2 q21_3 q21_4 q21_5 q21_6 q21_7 q21_8 q21_9 q21_10 q21_f q21_l
        replace J := Lib.hid ((show HO w v20 ([_, _, _] ++ boxO (w.heap.size + 1) [_, _, _, _, _, _, _, _, _, _, _] :: _) from J.out).cell (i := 0) (by simp) (.int .i64 q))
        generalize v20.setCell ⟨w.heap.size + 1, 0, none⟩ (.int .i64 q) = v22 at *
        clear HC HP HT HX
        have HC := Lib.hid (HC0.out.below J.out.below)
        have HP := Lib.hid (st_set (HP0.out.below J.out.below) q)
        have HT := Lib.hid (HT0.out.below J.out.below)
        clear HC0 HP0 HT0
        clear hq
        by_cases hkn : chkS (mrgS c { p with set := q }) = 0
        · have e1 : mrgR c { p with set := q } = (mrgS c { p with set := q }, 0) := by unfold mrgR; rw [hkn, if_pos rfl]
          simp only [e1] at CM1
          have e2 := ht hkn
          simp only [e2] at CM2
          clear e1 e2 ht hkn
          generalize mrgS c { p with set := q } = n at *
          obtain ⟨q23_0, q23_1, q23_2, q23_3, q23_4, q23_5, q23_6, q23_7, q23_8, q23_9, q23_10, q23_f, q23_l⟩ := (show HO w _ ([_, _, _, _] ++ boxO w.heap.size [_, _, _, _, _, _, _, _, _, _, _] :: _) from J.out).c11
          obtain ⟨q24_0, q24_1, q24_2, q24_3, q24_4, q24_5, q24_6, q24_7, q24_8, q24_9, q24_10, q24_f, q24_l⟩ := (show HO w _ ([_, _, _] ++ boxO (w.heap.size + 1) [_, _, _, _, _, _, _, _, _, _, _] :: _) from J.out).c11
          go_wp2_with fail
          refine (CM1 _ HC.out HP.out).out.mono ?_
          rintro e v25 ⟨L4, vb4, vd4, vo4, vi4, vc4, rfl, hn4, hb⟩
          obtain ⟨A4, c4, g1, -, -⟩ := hn4.bf.shape
          obtain ⟨Ad4, cd4, g2, -, -⟩ := hn4.dm.shape
          obtain ⟨Ao4, co4, g3, -, -⟩ := hn4.op.shape
          obtain ⟨Ai4, ci4, g4, -, -⟩ := hn4.ip.shape
          obtain ⟨Ac4, cc4, g5, -, -⟩ := hn4.cb.shape
          subst g1 g2 g3 g4 g5
          have HN := Lib.hid hn4
          replace J := Lib.hid ((J.out.step hb).alloc (stC n (.slice A4 L4.length c4) (.slice Ad4 n.dm.length cd4) (.slice Ao4 n.op.length co4) (.slice Ai4 n.ip.length ci4) (.slice Ac4 n.cb.length cc4)) 28)
          replace HC := Lib.hid (HC.out.below hb)
          replace HP := Lib.hid (HP.out.below hb)
          replace HT := Lib.hid (HT.out.below hb)
          have hb9 := (Below.refl v25.heap.size v25).alloc (Nat.le_refl _) (.cells ((stC n (.slice A4 L4.length c4) (.slice Ad4 n.dm.length cd4) (.slice Ao4 n.op.length co4) (.slice Ai4 n.ip.length ci4) (.slice Ac4 n.cb.length cc4))).toArray 28)
          replace HC := Lib.hid (HC.out.below hb9)
          replace HP := Lib.hid (HP.out.below hb9)
          replace HT := Lib.hid (HT.out.below hb9)
          replace HN := Lib.hid (HN.out.below hb9)
          clear hb hb9 hn4 CM1
          clear q23_0 q23_1 q23_2 q23_3 q23_4 q23_5 q23_6 q23_7 q23_8 q23_9 q23_10 q23_f q23_l q24_0 q24_1 q24_2 q24_3 q24_4 q24_5 q24_6 q24_7 q24_8 q24_9 q24_10 q24_f q24_l
          go_upto_region 13 with fail
          generalize v25.alloc (.cells #[.int .i64 n.set, .slice A4 L4.length c4, .int .i64 n.sc, .int .i64 n.tr, .slice Ad4 n.dm.length cd4, .slice Ao4 n.op.length co4, .bool n.is, .slice Ai4 n.ip.length ci4, .int .i64 n.dx, .int .i64 n.dy, .slice Ac4 n.cb.length cc4] 28) = v26 at *
          generalize v25.heap.size = k26 at *
          obtain ⟨q27_0, q27_1, q27_2, q27_3, q27_4, q27_5, q27_6, q27_7, q27_8, q27_9, q27_10, q27_f, q27_l⟩ := (show HO w _ ([] ++ boxO k26 [_, _, _, _, _, _, _, _, _, _, _] :: _) from J.out).c11
          obtain ⟨q28_0, q28_1, q28_2, q28_3, q28_4, q28_5, q28_6, q28_7, q28_8, q28_9, q28_10, q28_f, q28_l⟩ := (show HO w _ ([_, _, _, _] ++ boxO (w.heap.size + 1) [_, _, _, _, _, _, _, _, _, _, _] :: _) from J.out).c11
          go_wp2_with fail
          refine (CM2 _ L4 _ _ _ _ _ HN.out HP.out).out.mono ?_
          rintro e v29 ⟨L5, vb5, vd5, vo5, vi5, vc5, rfl, hn5, hb⟩
          obtain ⟨A5, c5, g1, -, -⟩ := hn5.bf.shape
          obtain ⟨Ad5, cd5, g2, -, -⟩ := hn5.dm.shape
          obtain ⟨Ao5, co5, g3, -, -⟩ := hn5.op.shape
          obtain ⟨Ai5, ci5, g4, -, -⟩ := hn5.ip.shape
          obtain ⟨Ac5, cc5, g5, -, -⟩ := hn5.cb.shape
          subst g1 g2 g3 g4 g5
          have HY := Lib.hid hn5
          replace J := Lib.hid ((J.out.step hb).alloc (stC n (.slice A5 L5.length c5) (.slice Ad5 n.dm.length cd5) (.slice Ao5 n.op.length co5) (.slice Ai5 n.ip.length ci5) (.slice Ac5 n.cb.length cc5)) 28)
          replace HC := Lib.hid (HC.out.below hb)
          replace HP := Lib.hid (HP.out.below hb)
          replace HT := Lib.hid (HT.out.below hb)
          replace HN := Lib.hid (HN.out.below hb)
          have hb9 := (Below.refl v29.heap.size v29).alloc (Nat.le_refl _) (.cells ((stC n (.slice A5 L5.length c5) (.slice Ad5 n.dm.length cd5) (.slice Ao5 n.op.length co5) (.slice Ai5 n.ip.length ci5) (.slice Ac5 n.cb.length cc5))).toArray 28)
          replace HC := Lib.hid (HC.out.below hb9)
          replace HP := Lib.hid (HP.out.below hb9)
          replace HT := Lib.hid (HT.out.below hb9)
          replace HN := Lib.hid (HN.out.below hb9)
          replace HY := Lib.hid (HY.out.below hb9)
          clear hb hb9 hn5 CM2
          clear q27_0 q27_1 q27_2 q27_3 q27_4 q27_5 q27_6 q27_7 q27_8 q27_9 q27_10 q27_f q27_l q28_0 q28_1 q28_2 q28_3 q28_4 q28_5 q28_6 q28_7 q28_8 q28_9 q28_10 q28_f q28_l
          go_upto_region 16 with fail
          generalize v29.alloc (.cells #[.int .i64 n.set, .slice A5 L5.length c5, .int .i64 n.sc, .int .i64 n.tr, .slice Ad5 n.dm.length cd5, .slice Ao5 n.op.length co5, .bool n.is, .slice Ai5 n.ip.length ci5, .int .i64 n.dx, .int .i64 n.dy, .slice Ac5 n.cb.length cc5] 28) = v30 at *
          generalize v29.heap.size = k30 at *
          have CS := Lib.hid (rsame_any HN.out HY.out)
          obtain ⟨q31_0, q31_1, q31_2, q31_3, q31_4, q31_5, q31_6, q31_7, q31_8, q31_9, q31_10, q31_f, q31_l⟩ := (show HO w _ ([_] ++ boxO k26 [_, _, _, _, _, _, _, _, _, _, _] :: _) from J.out).c11
          obtain ⟨q32_0, q32_1, q32_2, q32_3, q32_4, q32_5, q32_6, q32_7, q32_8, q32_9, q32_10, q32_f, q32_l⟩ := (show HO w _ ([] ++ boxO k30 [_, _, _, _, _, _, _, _, _, _, _] :: _) from J.out).c11
          go_wp2_with fail
          refine (CS).out.mono ?_
          rintro e v33 ⟨rfl, hb⟩
          replace J := Lib.hid (J.out.step hb)
          replace HC := Lib.hid (HC.out.below hb)
          replace HP := Lib.hid (HP.out.below hb)
          replace HT := Lib.hid (HT.out.below hb)
          replace HN := Lib.hid (HN.out.below hb)
          replace HY := Lib.hid (HY.out.below hb)
          clear hb CS
          clear q31_0 q31_1 q31_2 q31_3 q31_4 q31_5 q31_6 q31_7 q31_8 q31_9 q31_10 q31_f q31_l q32_0 q32_1 q32_2 q32_3 q32_4 q32_5 q32_6 q32_7 q32_8 q32_9 q32_10 q32_f q32_l
          go_wp2_with fail
          refine (CE _ HT.out).out.mono ?_
          rintro e v34 ⟨rfl, hb⟩
          replace J := Lib.hid (J.out.step hb)
          replace HC := Lib.hid (HC.out.below hb)
          replace HP := Lib.hid (HP.out.below hb)
          replace HT := Lib.hid (HT.out.below hb)
          replace HN := Lib.hid (HN.out.below hb)
          replace HY := Lib.hid (HY.out.below hb)
          clear hb
          go_wp2_with fail
          go_ret
          exact ⟨rfl, J.out.below⟩
        · have e1 : mrgR c { p with set := q } = (zeroS, chkS (mrgS c { p with set := q })) := by unfold mrgR; rw [if_neg hkn]
          simp only [e1] at CM1
          clear e1 ht CM2
          generalize chkS (mrgS c { p with set := q }) = kn at *
          have hkz : (kn == 0) = false := by simpa using hkn
          obtain ⟨q23_0, q23_1, q23_2, q23_3, q23_4, q23_5, q23_6, q23_7, q23_8, q23_9, q23_10, q23_f, q23_l⟩ := (show HO w _ ([_, _, _, _] ++ boxO w.heap.size [_, _, _, _, _, _, _, _, _, _, _] :: _) from J.out).c11
          obtain ⟨q24_0, q24_1, q24_2, q24_3, q24_4, q24_5, q24_6, q24_7, q24_8, q24_9, q24_10, q24_f, q24_l⟩ := (show HO w _ ([_, _, _] ++ boxO (w.heap.size + 1) [_, _, _, _, _, _, _, _, _, _, _] :: _) from J.out).c11
          go_wp2_with fail
          refine (CM1 _ HC.out HP.out).out.mono ?_
          rintro e v25 ⟨L4, vb4, vd4, vo4, vi4, vc4, rfl, hn4, hb⟩
          obtain ⟨A4, c4, g1, -, -⟩ := hn4.bf.shape
          obtain ⟨Ad4, cd4, g2, -, -⟩ := hn4.dm.shape
          obtain ⟨Ao4, co4, g3, -, -⟩ := hn4.op.shape
          obtain ⟨Ai4, ci4, g4, -, -⟩ := hn4.ip.shape
          obtain ⟨Ac4, cc4, g5, -, -⟩ := hn4.cb.shape
          subst g1 g2 g3 g4 g5
          replace J := Lib.hid ((J.out.step hb).alloc (stC zeroS (.slice A4 L4.length c4) (.slice Ad4 zeroS.dm.length cd4) (.slice Ao4 zeroS.op.length co4) (.slice Ai4 zeroS.ip.length ci4) (.slice Ac4 zeroS.cb.length cc4)) 28)
          replace HC := Lib.hid (HC.out.below hb)
          replace HP := Lib.hid (HP.out.below hb)
          replace HT := Lib.hid (HT.out.below hb)
          have hb9 := (Below.refl v25.heap.size v25).alloc (Nat.le_refl _) (.cells ((stC zeroS (.slice A4 L4.length c4) (.slice Ad4 zeroS.dm.length cd4) (.slice Ao4 zeroS.op.length co4) (.slice Ai4 zeroS.ip.length ci4) (.slice Ac4 zeroS.cb.length cc4))).toArray 28)
          replace HC := Lib.hid (HC.out.below hb9)
          replace HP := Lib.hid (HP.out.below hb9)
          replace HT := Lib.hid (HT.out.below hb9)
          clear hb hb9 hn4 CM1
          clear q23_0 q23_1 q23_2 q23_3 q23_4 q23_5 q23_6 q23_7 q23_8 q23_9 q23_10 q23_f q23_l q24_0 q24_1 q24_2 q24_3 q24_4 q24_5 q24_6 q24_7 q24_8 q24_9 q24_10 q24_f q24_l
          go_upto_region 13 with fail
          generalize v25.alloc (.cells #[.int .i64 zeroS.set, .slice A4 L4.length c4, .int .i64 zeroS.sc, .int .i64 zeroS.tr, .slice Ad4 zeroS.dm.length cd4, .slice Ao4 zeroS.op.length co4, .bool zeroS.is, .slice Ai4 zeroS.ip.length ci4, .int .i64 zeroS.dx, .int .i64 zeroS.dy, .slice Ac4 zeroS.cb.length cc4] 28) = v26 at *
          generalize v25.heap.size = k26 at *
          go_wp2_with fail
          refine (CE _ HT.out).out.mono ?_
          rintro e v27 ⟨rfl, hb⟩
          replace J := Lib.hid (J.out.step hb)
          replace HC := Lib.hid (HC.out.below hb)
          replace HP := Lib.hid (HP.out.below hb)
          replace HT := Lib.hid (HT.out.below hb)
          clear hb
          go_wp2_with fail
          go_ret
          exact ⟨rfl, J.out.below⟩
      · generalize chkS c = kc at *
        have hkz : (kc == 0) = false := by simpa using hk
        clear hsc hsp hl hm
        go_enter Tryz.func7, Tryz.ntmps7
        obtain ⟨q1_0, q1_1, q1_2, q1_3, q1_4, q1_5, q1_6, q1_7, q1_8, q1_9, q1_10, q1_f, q1_l⟩ := (show HO w _ ([_] ++ boxO w.heap.size [_, _, _, _, _, _, _, _, _, _, _] :: _) from J.out).c11
        obtain ⟨q2_0, q2_1, q2_2, q2_3, q2_4, q2_5, q2_6, q2_7, q2_8, q2_9, q2_10, q2_f, q2_l⟩ := (show HO w _ ([] ++ boxO (w.heap.size + 1) [_, _, _, _, _, _, _, _, _, _, _] :: _) from J.out).c11
        go_wp2_with fail
        refine (CL _ HC.out).out.mono ?_
        rintro e v3 ⟨rfl, hb⟩
        replace J := Lib.hid (J.out.step hb)
        replace HC := Lib.hid (HC.out.below hb)
        replace HP := Lib.hid (HP.out.below hb)
        replace HT := Lib.hid (HT.out.below hb)
        clear hb
        clear q1_0 q1_1 q1_2 q1_3 q1_4 q1_5 q1_6 q1_7 q1_8 q1_9 q1_10 q1_f q1_l q2_0 q2_1 q2_2 q2_3 q2_4 q2_5 q2_6 q2_7 q2_8 q2_9 q2_10 q2_f q2_l
        obtain ⟨q4_0, q4_1, q4_2, q4_3, q4_4, q4_5, q4_6, q4_7, q4_8, q4_9, q4_10, q4_f, q4_l⟩ := (show HO w _ ([_] ++ boxO w.heap.size [_, _, _, _, _, _, _, _, _, _, _] :: _) from J.out).c11
        obtain ⟨q5_0, q5_1, q5_2, q5_3, q5_4, q5_5, q5_6, q5_7, q5_8, q5_9, q5_10, q5_f, q5_l⟩ := (show HO w _ ([] ++ boxO (w.heap.size + 1) [_, _, _, _, _, _, _, _, _, _, _] :: _) from J.out).c11
        go_wp2_with fail
        refine (PL _ HP.out).out.mono ?_
        rintro e v6 ⟨rfl, hb⟩
        replace J := Lib.hid (J.out.step hb)
        replace HC := Lib.hid (HC.out.below hb)
        replace HP := Lib.hid (HP.out.below hb)
        replace HT := Lib.hid (HT.out.below hb)
        clear hb
        clear q4_0 q4_1 q4_2 q4_3 q4_4 q4_5 q4_6 q4_7 q4_8 q4_9 q4_10 q4_f q4_l q5_0 q5_1 q5_2 q5_3 q5_4 q5_5 q5_6 q5_7 q5_8 q5_9 q5_10 q5_f q5_l
        obtain ⟨q7_0, q7_1, q7_2, q7_3, q7_4, q7_5, q7_6, q7_7, q7_8, q7_9, q7_10, q7_f, q7_l⟩ := (show HO w _ ([_] ++ boxO w.heap.size [_, _, _, _, _, _, _, _, _, _, _] :: _) from J.out).c11
        obtain ⟨q8_0, q8_1, q8_2, q8_3, q8_4, q8_5, q8_6, q8_7, q8_8, q8_9, q8_10, q8_f, q8_l⟩ := (show HO w _ ([] ++ boxO (w.heap.size + 1) [_, _, _, _, _, _, _, _, _, _, _] :: _) from J.out).c11
        go_wp2_with fail
        refine (RK _ HC.out).out.mono ?_
        rintro e v9 ⟨rfl, hb⟩
        replace J := Lib.hid (J.out.step hb)
        replace HC := Lib.hid (HC.out.below hb)
        replace HP := Lib.hid (HP.out.below hb)
        replace HT := Lib.hid (HT.out.below hb)
        clear hb
        clear q7_0 q7_1 q7_2 q7_3 q7_4 q7_5 q7_6 q7_7 q7_8 q7_9 q7_10 q7_f q7_l q8_0 q8_1 q8_2 q8_3 q8_4 q8_5 q8_6 q8_7 q8_8 q8_9 q8_10 q8_f q8_l
        obtain ⟨q10_0, q10_1, q10_2, q10_3, q10_4, q10_5, q10_6, q10_7, q10_8, q10_9, q10_10, q10_f, q10_l⟩ := (show HO w _ ([_] ++ boxO w.heap.size [_, _, _, _, _, _, _, _, _, _, _] :: _) from J.out).c11
        obtain ⟨q11_0, q11_1, q11_2, q11_3, q11_4, q11_5, q11_6, q11_7, q11_8, q11_9, q11_10, q11_f, q11_l⟩ := (show HO w _ ([] ++ boxO (w.heap.size + 1) [_, _, _, _, _, _, _, _, _, _, _] :: _) from J.out).c11
        go_wp2_with fail
        refine (CE _ HT.out).out.mono ?_
        rintro e v12 ⟨rfl, hb⟩
        replace J := Lib.hid (J.out.step hb)
        replace HC := Lib.hid (HC.out.below hb)
        replace HP := Lib.hid (HP.out.below hb)
        replace HT := Lib.hid (HT.out.below hb)
        clear hb
        clear q10_0 q10_1 q10_2 q10_3 q10_4 q10_5 q10_6 q10_7 q10_8 q10_9 q10_10 q10_f q10_l q11_0 q11_1 q11_2 q11_3 q11_4 q11_5 q11_6 q11_7 q11_8 q11_9 q11_10 q11_f q11_l
        go_wp2_with fail
        go_ret
        exact ⟨rfl, J.out.below⟩

end Go.Proofs.YthedglfocjljjaaGreatDoor
