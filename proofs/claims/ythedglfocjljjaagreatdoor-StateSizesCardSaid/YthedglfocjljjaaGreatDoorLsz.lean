/-
  The law StateSizes: its walk.
-/
import Derived.Test.YthedglfocjljjaaGreatDoorExm
import Derived.Test.YthedglfocjljjaaGreatDoorSsz
namespace Go.Proofs.YthedglfocjljjaaGreatDoor
open Go.RowKit

/-- what a small state without errors is, as the law StateSizes asks it -/
structure SizF (s : St) (p q : Nat) (D I : List R) (cl : List Px) (b : Bool) : Prop where
  sz : sizS s = ((p : Int), (q : Int))
  pl : p ≤ 256
  ql : q ≤ 256
  hc : hasC s = b
  bl : s.bf.length = if b = true then 1 else 0
  one : b = true → 1 ≤ p ∧ 1 ≤ q
  con : conR s = cl
  len : cl.length = p * q
  none : b = false → cl = []
  mem : ∀ x, s.bf = [x] → ∀ z ∈ cl, z ∈ x.l
  dm : clipF s s.dm = (D, 0)
  ip : clipF s (inpL s) = (I, 0)
  dc : Clipd ⟨0, 0, (p : Int), (q : Int)⟩ s.dm D
  ic : Clipd ⟨0, 0, (p : Int), (q : Int)⟩ (inpL s) I
  ar : s.is = false → Rgn.sumP (Rgn.combP Rgn.orB I []) = (p : Int) * q
theorem siz_all {s : St} (hc : chkS s = 0) : ∃ p q D I cl b, SizF s p q D I cl b := by
  obtain ⟨p, q, hS, hp, hq, hC, hN, hP, hM⟩ := siz_facts hc
  obtain ⟨a1, -, -, hm⟩ := chk_ok hc
  obtain ⟨-, -, hl⟩ := arg_ok a1
  have hw : wholeR s = ⟨0, 0, (p : Int), (q : Int)⟩ := by unfold wholeR; rw [hS]
  simp only [manyB, Bool.or_eq_false_iff, Bool.and_eq_false_iff] at hm
  obtain ⟨⟨hd, -⟩, hi⟩ := hm
  have hD : (canS s.dm).length ≤ 256 := by simp only [wideB, decide_eq_false_iff_not] at hd; omega
  have hI : (canS (inpL s)).length ≤ 256 := by
    unfold inpL
    cases his : s.is with
    | true =>
      rcases hi with hi | hi
      · rw [hi] at his; cases his
      · simp only [wideB, decide_eq_false_iff_not] at hi
        rw [if_pos rfl]
        omega
    | false =>
      rw [if_neg (by simp), hw, canS_whole hp hq]
      split <;> simp
  have cD := clipd_of hp hq hD
  have cI := clipd_of hp hq hI
  have eD : ∀ l, Clipd ⟨0, 0, (p : Int), (q : Int)⟩ l (Rgn.combP (fun x y => x && y) l [⟨0, 0, (p : Int), (q : Int)⟩]) → clipF s l = (Rgn.combP (fun x y => x && y) l [⟨0, 0, (p : Int), (q : Int)⟩], 0) := fun l h => by
    unfold clipF
    rw [if_neg (by simpa using hc), hw, if_pos h.len]
  refine ⟨p, q, _, _, conR s, hasC s, hS, hp, hq, rfl, ?_, fun h => hP (by rw [hC] at h; simpa using h), rfl, hN, fun h => by unfold conR; rw [h]; rfl, hM, eD _ cD, eD _ cI, cD, cI, fun his => ?_⟩
  · rw [hC]
    by_cases h : s.bf.length = 1
    · simp [h]
    · simp [h]; exact List.eq_nil_of_length_eq_zero (by omega)
  · unfold inpL
    rw [his, if_neg (by simp), hw]
    have e : Rgn.combP (fun x y => x && y) [⟨0, 0, (p : Int), (q : Int)⟩] [⟨0, 0, (p : Int), (q : Int)⟩] = canS [⟨0, 0, (p : Int), (q : Int)⟩] := Rgn.region_unique ((Rgn.combP_ok rfl _ _).congr fun x y => by rw [Rgn.setS_nil]; unfold Rgn.setS; exact Bool.and_self _) (Rgn.combP_ok rfl _ _)
    rw [e, show Rgn.combP Rgn.orB (canS [⟨0, 0, (p : Int), (q : Int)⟩]) [] = canS [⟨0, 0, (p : Int), (q : Int)⟩] from Rgn.comb_fix (Rgn.combP_ok rfl _ _) (Rgn.setS_inside rfl _ _)]
    exact whole_area hp hq

set_option maxRecDepth 100000 in
set_option maxHeartbeats 16000000 in
theorem sizes_walk {w : World} (T : Trf.Tab w) {s : St} {L : List Bv} {vb vd vo vi vc : Value} (h : StAt w s L vb vd vo vi vc) :
    Calls Tryz.prog 8 #[stV s vb vd vo vi vc] w fun e w' => e = .returned (.bool true) ∧ Below w.heap.size w w' := by
  obtain ⟨A1, c1, rfl, h11, h21⟩ := h.bf.shape
  obtain ⟨Ad1, cd1, rfl, hd11, hd21⟩ := h.dm.shape
  obtain ⟨Ao1, co1, rfl, ho11, ho21⟩ := h.op.shape
  obtain ⟨Ai1, ci1, rfl, hi11, hi21⟩ := h.ip.shape
  obtain ⟨Ac1, cc1, rfl, hc11, hc21⟩ := h.cb.shape
  have HS := Lib.hid h
  have HT := Lib.hid T
  have CL := fun (W : World) (h : StAt W s L (.slice A1 L.length c1) (.slice Ad1 s.dm.length cd1) (.slice Ao1 s.op.length co1) (.slice Ai1 s.ip.length ci1) (.slice Ac1 s.cb.length cc1)) => Lib.hid (light_any h)
  have CE := fun (W : World) (T : Trf.Tab W) => Lib.hid (ex_any T)
  have J := Lib.hid ((HO.nil w).alloc (stC s (.slice A1 L.length c1) (.slice Ad1 s.dm.length cd1) (.slice Ao1 s.op.length co1) (.slice Ai1 s.ip.length ci1) (.slice Ac1 s.cb.length cc1)) 28)
  have hb := J.out.below
  replace HS := Lib.hid (HS.out.below hb)
  replace HT := Lib.hid (HT.out.below hb)
  clear h T hb
  cases hl : lightB s with
  | false =>
    rw [hl] at CL
    clear hl
    go_enter Tryz.func8, Tryz.ntmps8
    obtain ⟨q1_0, q1_1, q1_2, q1_3, q1_4, q1_5, q1_6, q1_7, q1_8, q1_9, q1_10, q1_f, q1_l⟩ := (show HO w _ ([] ++ boxO w.heap.size [_, _, _, _, _, _, _, _, _, _, _] :: _) from J.out).c11
    go_wp2_with fail
    refine (CL _ HS.out).out.mono ?_
    rintro e v2 ⟨rfl, hb⟩
    replace J := Lib.hid (J.out.step hb)
    replace HS := Lib.hid (HS.out.below hb)
    replace HT := Lib.hid (HT.out.below hb)
    clear hb
    clear q1_0 q1_1 q1_2 q1_3 q1_4 q1_5 q1_6 q1_7 q1_8 q1_9 q1_10 q1_f q1_l
    obtain ⟨q3_0, q3_1, q3_2, q3_3, q3_4, q3_5, q3_6, q3_7, q3_8, q3_9, q3_10, q3_f, q3_l⟩ := (show HO w _ ([] ++ boxO w.heap.size [_, _, _, _, _, _, _, _, _, _, _] :: _) from J.out).c11
    go_wp2_with fail
    refine (CE _ HT.out).out.mono ?_
    rintro e v4 ⟨rfl, hb⟩
    replace J := Lib.hid (J.out.step hb)
    replace HS := Lib.hid (HS.out.below hb)
    replace HT := Lib.hid (HT.out.below hb)
    clear hb
    clear q3_0 q3_1 q3_2 q3_3 q3_4 q3_5 q3_6 q3_7 q3_8 q3_9 q3_10 q3_f q3_l
    go_wp2_with fail
    go_ret
    exact ⟨rfl, J.out.below⟩
  | true =>
    rw [hl] at CL
    have hf := light_few hl
    clear hl
    have CK := fun (W : World) (h : StAt W s L (.slice A1 L.length c1) (.slice Ad1 s.dm.length cd1) (.slice Ao1 s.op.length co1) (.slice Ai1 s.ip.length ci1) (.slice Ac1 s.cb.length cc1)) => Lib.hid (chk_any rg h hf)
    by_cases hc : chkS s = 0
    rotate_left
    · generalize chkS s = ce at *
      have hce : (ce == 0) = false := by simpa using hc
      go_enter Tryz.func8, Tryz.ntmps8
      obtain ⟨q1_0, q1_1, q1_2, q1_3, q1_4, q1_5, q1_6, q1_7, q1_8, q1_9, q1_10, q1_f, q1_l⟩ := (show HO w _ ([] ++ boxO w.heap.size [_, _, _, _, _, _, _, _, _, _, _] :: _) from J.out).c11
      go_wp2_with fail
      refine (CL _ HS.out).out.mono ?_
      rintro e v2 ⟨rfl, hb⟩
      replace J := Lib.hid (J.out.step hb)
      replace HS := Lib.hid (HS.out.below hb)
      replace HT := Lib.hid (HT.out.below hb)
      clear hb CL
      clear q1_0 q1_1 q1_2 q1_3 q1_4 q1_5 q1_6 q1_7 q1_8 q1_9 q1_10 q1_f q1_l
      obtain ⟨q3_0, q3_1, q3_2, q3_3, q3_4, q3_5, q3_6, q3_7, q3_8, q3_9, q3_10, q3_f, q3_l⟩ := (show HO w _ ([] ++ boxO w.heap.size [_, _, _, _, _, _, _, _, _, _, _] :: _) from J.out).c11
      go_wp2_with fail
      refine (CK _ HS.out).out.mono ?_
      rintro e v4 ⟨rfl, hb⟩
      replace J := Lib.hid (J.out.step hb)
      replace HS := Lib.hid (HS.out.below hb)
      replace HT := Lib.hid (HT.out.below hb)
      clear hb CK
      clear q3_0 q3_1 q3_2 q3_3 q3_4 q3_5 q3_6 q3_7 q3_8 q3_9 q3_10 q3_f q3_l
      obtain ⟨q5_0, q5_1, q5_2, q5_3, q5_4, q5_5, q5_6, q5_7, q5_8, q5_9, q5_10, q5_f, q5_l⟩ := (show HO w _ ([] ++ boxO w.heap.size [_, _, _, _, _, _, _, _, _, _, _] :: _) from J.out).c11
      go_wp2_with fail
      refine (CE _ HT.out).out.mono ?_
      rintro e v6 ⟨rfl, hb⟩
      replace J := Lib.hid (J.out.step hb)
      replace HS := Lib.hid (HS.out.below hb)
      replace HT := Lib.hid (HT.out.below hb)
      clear hb
      clear q5_0 q5_1 q5_2 q5_3 q5_4 q5_5 q5_6 q5_7 q5_8 q5_9 q5_10 q5_f q5_l
      go_wp2_with fail
      go_ret
      exact ⟨rfl, J.out.below⟩
    rw [hc] at CK
    obtain ⟨p, q, D, I, cl, b, F⟩ := siz_all hc
    clear hc
    have CZ := fun (W : World) (h : StAt W s L (.slice A1 L.length c1) (.slice Ad1 s.dm.length cd1) (.slice Ao1 s.op.length co1) (.slice Ai1 s.ip.length ci1) (.slice Ac1 s.cb.length cc1)) => (by have := sz_any rg h hf; rw [F.sz] at this; exact Lib.hid this : Hid (Calls Tryz.prog 20 #[stV s (.slice A1 L.length c1) (.slice Ad1 s.dm.length cd1) (.slice Ao1 s.op.length co1) (.slice Ai1 s.ip.length ci1) (.slice Ac1 s.cb.length cc1)] W fun e w' => e = .returned (.tuple #[.int .i64 (p : Int), .int .i64 (q : Int)]) ∧ Below W.heap.size W w'))
    have CC := fun (W : World) (T : Trf.Tab W) (h : StAt W s L (.slice A1 L.length c1) (.slice Ad1 s.dm.length cd1) (.slice Ao1 s.op.length co1) (.slice Ai1 s.ip.length ci1) (.slice Ac1 s.cb.length cc1)) => (by have := cont_any rg T h hf; unfold ConO at this; rw [F.sz, F.hc, F.con] at this; exact Lib.hid this : Hid (Calls Tryz.prog 22 #[stV s (.slice A1 L.length c1) (.slice Ad1 s.dm.length cd1) (.slice Ao1 s.op.length co1) (.slice Ai1 s.ip.length ci1) (.slice Ac1 s.cb.length cc1)] W fun e w' => ∃ v, e = .returned (.tuple #[.agg #[.int .i64 (p : Int), .int .i64 (q : Int), v], .bool b]) ∧ Pxs w' v cl ∧ Below W.heap.size W w'))
    have CD := fun (W : World) (h : StAt W s L (.slice A1 L.length c1) (.slice Ad1 s.dm.length cd1) (.slice Ao1 s.op.length co1) (.slice Ai1 s.ip.length ci1) (.slice Ac1 s.cb.length cc1)) => (by have := dam_any rg h hf; rw [F.dm] at this; exact Lib.hid this : Hid (Calls Tryz.prog 24 #[stV s (.slice A1 L.length c1) (.slice Ad1 s.dm.length cd1) (.slice Ao1 s.op.length co1) (.slice Ai1 s.ip.length ci1) (.slice Ac1 s.cb.length cc1)] W fun e w' => ∃ t, e = .returned (.tuple #[t, .int .i64 0]) ∧ Rs w' t D ∧ Below W.heap.size W w'))
    have CI := fun (W : World) (h : StAt W s L (.slice A1 L.length c1) (.slice Ad1 s.dm.length cd1) (.slice Ao1 s.op.length co1) (.slice Ai1 s.ip.length ci1) (.slice Ac1 s.cb.length cc1)) => (by have := inp_any rg h hf; rw [F.ip] at this; exact Lib.hid this : Hid (Calls Tryz.prog 26 #[stV s (.slice A1 L.length c1) (.slice Ad1 s.dm.length cd1) (.slice Ao1 s.op.length co1) (.slice Ai1 s.ip.length ci1) (.slice Ac1 s.cb.length cc1)] W fun e w' => ∃ t, e = .returned (.tuple #[t, .int .i64 0]) ∧ Rs w' t I ∧ Below W.heap.size W w'))
    have KD := fun (W : World) (v : Value) (h : Rs W v D) => (by have := Rgn.riscan_any (rgn_rs h) (Nat.le_trans F.dc.len (by decide)); rw [F.dc.can] at this; exact Lib.hid this : Hid (Calls Tryz.prog 31 #[v] W fun e w' => e = .returned (.bool true) ∧ Below W.heap.size W w'))
    have KI := fun (W : World) (v : Value) (h : Rs W v I) => (by have := Rgn.riscan_any (rgn_rs h) (Nat.le_trans F.ic.len (by decide)); rw [F.ic.can] at this; exact Lib.hid this : Hid (Calls Tryz.prog 31 #[v] W fun e w' => e = .returned (.bool true) ∧ Below W.heap.size W w'))
    have SD := fun (W : World) (v u : Value) (h : Rs W v D) (g : Rs W u [⟨0, 0, (p : Int), (q : Int)⟩]) => (by have := Rgn.rsubt_any (rgn_rs h) (rgn_rs g) (by have := F.dc.len; simp; omega); rw [F.dc.sub] at this; exact Lib.hid this : Hid (Calls Tryz.prog 32 #[v, u] W (Rgn.Lim [] W)))
    have SI := fun (W : World) (v u : Value) (h : Rs W v I) (g : Rs W u [⟨0, 0, (p : Int), (q : Int)⟩]) => (by have := Rgn.rsubt_any (rgn_rs h) (rgn_rs g) (by have := F.ic.len; simp; omega); rw [F.ic.sub] at this; exact Lib.hid this : Hid (Calls Tryz.prog 32 #[v, u] W (Rgn.Lim [] W)))
    have AI := fun (his : s.is = false) (W : World) (v : Value) (h : Rs W v I) => (by have := Rgn.rarea_any (rgn_rs h) (Nat.le_trans F.ic.len (by decide)); rw [F.ar his] at this; exact Lib.hid this : Hid (Calls Tryz.prog 33 #[v] W fun e w' => e = .returned (.int .i64 ((p : Int) * q)) ∧ Below W.heap.size W w'))
    unfold Rgn.Lim at SD SI
    simp only [List.length_nil, Nat.zero_le, if_pos] at SD SI
    have HF := Lib.hid F
    have HBL0 := Lib.hid (show L.length = if b = true then 1 else 0 by rw [← HS.out.len, F.bl])
    clear F hf
    cases b with
    | false =>
      have hbl : L.length = 0 := by simpa using HBL0.out
      clear HBL0
      have HB0 := Lib.hid (show ((L.length : Int) == 1) = false by rw [hbl]; rfl)
      clear hbl
      go_enter Tryz.func8, Tryz.ntmps8
      obtain ⟨q1_0, q1_1, q1_2, q1_3, q1_4, q1_5, q1_6, q1_7, q1_8, q1_9, q1_10, q1_f, q1_l⟩ := (show HO w _ ([] ++ boxO w.heap.size [_, _, _, _, _, _, _, _, _, _, _] :: _) from J.out).c11
      go_wp2_with fail
      refine (CL _ HS.out).out.mono ?_
      rintro e v2 ⟨rfl, hb⟩
      replace J := Lib.hid (J.out.step hb)
      replace HS := Lib.hid (HS.out.below hb)
      replace HT := Lib.hid (HT.out.below hb)
      clear hb CL
      clear q1_0 q1_1 q1_2 q1_3 q1_4 q1_5 q1_6 q1_7 q1_8 q1_9 q1_10 q1_f q1_l
      obtain ⟨q3_0, q3_1, q3_2, q3_3, q3_4, q3_5, q3_6, q3_7, q3_8, q3_9, q3_10, q3_f, q3_l⟩ := (show HO w _ ([] ++ boxO w.heap.size [_, _, _, _, _, _, _, _, _, _, _] :: _) from J.out).c11
      go_wp2_with fail
      refine (CK _ HS.out).out.mono ?_
      rintro e v4 ⟨rfl, hb⟩
      replace J := Lib.hid (J.out.step hb)
      replace HS := Lib.hid (HS.out.below hb)
      replace HT := Lib.hid (HT.out.below hb)
      clear hb CK
      clear q3_0 q3_1 q3_2 q3_3 q3_4 q3_5 q3_6 q3_7 q3_8 q3_9 q3_10 q3_f q3_l
      obtain ⟨q5_0, q5_1, q5_2, q5_3, q5_4, q5_5, q5_6, q5_7, q5_8, q5_9, q5_10, q5_f, q5_l⟩ := (show HO w _ ([] ++ boxO w.heap.size [_, _, _, _, _, _, _, _, _, _, _] :: _) from J.out).c11
      go_wp2_with fail
      refine (CZ _ HS.out).out.mono ?_
      rintro e v6 ⟨rfl, hb⟩
      replace J := Lib.hid (J.out.step hb)
      replace HS := Lib.hid (HS.out.below hb)
      replace HT := Lib.hid (HT.out.below hb)
      clear hb CZ
      clear q5_0 q5_1 q5_2 q5_3 q5_4 q5_5 q5_6 q5_7 q5_8 q5_9 q5_10 q5_f q5_l
      obtain ⟨q7_0, q7_1, q7_2, q7_3, q7_4, q7_5, q7_6, q7_7, q7_8, q7_9, q7_10, q7_f, q7_l⟩ := (show HO w _ ([] ++ boxO w.heap.size [_, _, _, _, _, _, _, _, _, _, _] :: _) from J.out).c11
      go_wp2_with fail
      refine (CC _ HT.out HS.out).out.mono ?_
      rintro e v8 ⟨u9, rfl, hd, hb⟩
      obtain ⟨A2, c2, g1, -, -⟩ := hd.shape
      subst g1
      have HA := Lib.hid hd
      replace J := Lib.hid ((J.out.step hb).alloc [.int .i64 (p : Int), .int .i64 (q : Int), .slice A2 cl.length c2] 42)
      replace HS := Lib.hid (HS.out.below hb)
      replace HT := Lib.hid (HT.out.below hb)
      have hb9 := (Below.refl v8.heap.size v8).alloc (Nat.le_refl _) (.cells ([.int .i64 (p : Int), .int .i64 (q : Int), .slice A2 cl.length c2]).toArray 42)
      replace HS := Lib.hid (HS.out.below hb9)
      replace HT := Lib.hid (HT.out.below hb9)
      replace HA := Lib.hid (HA.out.below hb9)
      clear hb hb9 hd CC
      clear q7_0 q7_1 q7_2 q7_3 q7_4 q7_5 q7_6 q7_7 q7_8 q7_9 q7_10 q7_f q7_l
      go_upto_region 5 with fail
      generalize v8.alloc (.cells #[.int .i64 (p : Int), .int .i64 (q : Int), .slice A2 cl.length c2] 42) = v9 at *
      generalize v8.heap.size = k9 at *
      obtain ⟨q10_0, q10_1, q10_2, q10_3, q10_4, q10_5, q10_6, q10_7, q10_8, q10_9, q10_10, q10_f, q10_l⟩ := (show HO w _ ([_] ++ boxO w.heap.size [_, _, _, _, _, _, _, _, _, _, _] :: _) from J.out).c11
      go_wp2_with fail
      refine (CD _ HS.out).out.mono ?_
      rintro e v11 ⟨u9, rfl, hd, hb⟩
      obtain ⟨A4, c4, g1, -, -⟩ := hd.shape
      subst g1
      have HD0 := Lib.hid hd
      replace J := Lib.hid (J.out.step hb)
      replace HS := Lib.hid (HS.out.below hb)
      replace HT := Lib.hid (HT.out.below hb)
      replace HA := Lib.hid (HA.out.below hb)
      clear hb hd CD
      clear q10_0 q10_1 q10_2 q10_3 q10_4 q10_5 q10_6 q10_7 q10_8 q10_9 q10_10 q10_f q10_l
      have HD := HD0
      clear HD0
      obtain ⟨q12_0, q12_1, q12_2, q12_3, q12_4, q12_5, q12_6, q12_7, q12_8, q12_9, q12_10, q12_f, q12_l⟩ := (show HO w _ ([_] ++ boxO w.heap.size [_, _, _, _, _, _, _, _, _, _, _] :: _) from J.out).c11
      go_wp2_with fail
      refine (CI _ HS.out).out.mono ?_
      rintro e v13 ⟨u9, rfl, hd, hb⟩
      obtain ⟨A6, c6, g1, -, -⟩ := hd.shape
      subst g1
      have HI0 := Lib.hid hd
      replace J := Lib.hid (J.out.step hb)
      replace HS := Lib.hid (HS.out.below hb)
      replace HT := Lib.hid (HT.out.below hb)
      replace HA := Lib.hid (HA.out.below hb)
      replace HD := Lib.hid (HD.out.below hb)
      clear hb hd CI
      clear q12_0 q12_1 q12_2 q12_3 q12_4 q12_5 q12_6 q12_7 q12_8 q12_9 q12_10 q12_f q12_l
      have HI := HI0
      clear HI0
      obtain ⟨q14_0, q14_1, q14_2, q14_3, q14_4, q14_5, q14_6, q14_7, q14_8, q14_9, q14_10, q14_f, q14_l⟩ := (show HO w _ ([_] ++ boxO w.heap.size [_, _, _, _, _, _, _, _, _, _, _] :: _) from J.out).c11
      obtain ⟨q15_0, q15_1, q15_2, q15_f, q15_l⟩ := (show HO w _ ([] ++ boxO k9 [_, _, _] :: _) from J.out).c3
      have hb0 := HB0.out
      have hp := HF.out.pl
      have hq := HF.out.ql
      have hpq : p * q ≤ 65536 := Nat.mul_le_mul hp hq
      have hpi : (p : Int) * q = ((p * q : Nat) : Int) := (Int.natCast_mul p q).symm
      have hwr : IntKind.i64.wrap ((p : Int) * q) = (p : Int) * q := by rw [hpi, IntKind.wrap_i64]; omega
      have hc1 : (cl.length : Int) = (p : Int) * q := by rw [HF.out.len, hpi]
      clear hp hq hpq hpi
      go_wp2_with fail
      refine (KD _ _ HD.out).out.mono ?_
      rintro e v16 ⟨rfl, hb⟩
      replace J := Lib.hid (J.out.step hb)
      replace HS := Lib.hid (HS.out.below hb)
      replace HT := Lib.hid (HT.out.below hb)
      replace HA := Lib.hid (HA.out.below hb)
      replace HD := Lib.hid (HD.out.below hb)
      replace HI := Lib.hid (HI.out.below hb)
      clear hb KD
      clear q14_0 q14_1 q14_2 q14_3 q14_4 q14_5 q14_6 q14_7 q14_8 q14_9 q14_10 q14_f q14_l q15_0 q15_1 q15_2 q15_f q15_l
      obtain ⟨q17_0, q17_1, q17_2, q17_3, q17_4, q17_5, q17_6, q17_7, q17_8, q17_9, q17_10, q17_f, q17_l⟩ := (show HO w _ ([_] ++ boxO w.heap.size [_, _, _, _, _, _, _, _, _, _, _] :: _) from J.out).c11
      obtain ⟨q18_0, q18_1, q18_2, q18_f, q18_l⟩ := (show HO w _ ([] ++ boxO k9 [_, _, _] :: _) from J.out).c3
      go_wp2_with fail
      refine (KI _ _ HI.out).out.mono ?_
      rintro e v19 ⟨rfl, hb⟩
      replace J := Lib.hid (J.out.step hb)
      replace HS := Lib.hid (HS.out.below hb)
      replace HT := Lib.hid (HT.out.below hb)
      replace HA := Lib.hid (HA.out.below hb)
      replace HD := Lib.hid (HD.out.below hb)
      replace HI := Lib.hid (HI.out.below hb)
      clear hb KI
      clear q17_0 q17_1 q17_2 q17_3 q17_4 q17_5 q17_6 q17_7 q17_8 q17_9 q17_10 q17_f q17_l q18_0 q18_1 q18_2 q18_f q18_l
      obtain ⟨q20_0, q20_1, q20_2, q20_3, q20_4, q20_5, q20_6, q20_7, q20_8, q20_9, q20_10, q20_f, q20_l⟩ := (show HO w _ ([_] ++ boxO w.heap.size [_, _, _, _, _, _, _, _, _, _, _] :: _) from J.out).c11
      obtain ⟨q21_0, q21_1, q21_2, q21_f, q21_l⟩ := (show HO w _ ([] ++ boxO k9 [_, _, _] :: _) from J.out).c3
      go_upto_region 10 with fail
      clear hc1
      clear q20_0 q20_1 q20_2 q20_3 q20_4 q20_5 q20_6 q20_7 q20_8 q20_9 q20_10 q20_f q20_l q21_0 q21_1 q21_2 q21_f q21_l
      have HR := Lib.hid (show Rs (v19.alloc (.cells #[.int .i64 (0 : Int), .int .i64 (0 : Int), .int .i64 (p : Int), .int .i64 (q : Int)] 53)) (.slice (some ⟨v19.heap.size, 0, none⟩) 1 1) [⟨0, 0, (p : Int), (q : Int)⟩] from rs_one v19 ⟨0, 0, (p : Int), (q : Int)⟩)
      replace J := Lib.hid (J.out.alloc [.int .i64 (0 : Int), .int .i64 (0 : Int), .int .i64 (p : Int), .int .i64 (q : Int)] 53)
      have hb9 := (Below.refl v19.heap.size v19).alloc (Nat.le_refl _) (.cells #[.int .i64 (0 : Int), .int .i64 (0 : Int), .int .i64 (p : Int), .int .i64 (q : Int)] 53)
      replace HS := Lib.hid (HS.out.below hb9)
      replace HT := Lib.hid (HT.out.below hb9)
      replace HA := Lib.hid (HA.out.below hb9)
      replace HD := Lib.hid (HD.out.below hb9)
      replace HI := Lib.hid (HI.out.below hb9)
      clear hb9
      generalize v19.alloc (.cells #[.int .i64 (0 : Int), .int .i64 (0 : Int), .int .i64 (p : Int), .int .i64 (q : Int)] 53) = vr at *
      generalize v19.heap.size = kr at *
      go_wp2_with fail
      refine (SD _ _ _ HD.out HR.out).out.mono ?_
      rintro e v22 ⟨t9, rfl, hd, hb⟩
      obtain ⟨A8, c8, g1, -, -⟩ := (show Rs _ _ _ from Rgn.OwnR.rs hd).shape
      simp only [List.length_nil] at g1
      subst g1
      replace J := Lib.hid (J.out.step hb)
      replace HS := Lib.hid (HS.out.below hb)
      replace HT := Lib.hid (HT.out.below hb)
      replace HA := Lib.hid (HA.out.below hb)
      replace HD := Lib.hid (HD.out.below hb)
      replace HI := Lib.hid (HI.out.below hb)
      replace HR := Lib.hid (HR.out.below hb)
      clear hb hd SD
      go_wp2_with fail
      refine (SI _ _ _ HI.out HR.out).out.mono ?_
      rintro e v23 ⟨t9, rfl, hd, hb⟩
      obtain ⟨A9, c9, g1, -, -⟩ := (show Rs _ _ _ from Rgn.OwnR.rs hd).shape
      simp only [List.length_nil] at g1
      subst g1
      replace J := Lib.hid (J.out.step hb)
      replace HS := Lib.hid (HS.out.below hb)
      replace HT := Lib.hid (HT.out.below hb)
      replace HA := Lib.hid (HA.out.below hb)
      replace HD := Lib.hid (HD.out.below hb)
      replace HI := Lib.hid (HI.out.below hb)
      replace HR := Lib.hid (HR.out.below hb)
      clear hb hd SI
      obtain ⟨q24_0, q24_1, q24_2, q24_3, q24_4, q24_5, q24_6, q24_7, q24_8, q24_9, q24_10, q24_f, q24_l⟩ := (show HO w _ ([_, _] ++ boxO w.heap.size [_, _, _, _, _, _, _, _, _, _, _] :: _) from J.out).c11
      cases his : s.is with
      | true =>
        rw [his] at q24_6
        clear AI his
        go_wp2_with fail
        go_loopw [16] (fun s16 wr => ∃ i : Nat, i ≤ cl.length ∧ s16 = .int .i64 (i : Int) ∧ Hid (Below v23.heap.size v23 wr)) (fun s16 _ => leftN cl.length s16)
        case atStart => exact ⟨0, Nat.zero_le _, rfl, Lib.hid (Below.refl _ _)⟩
        case round =>
          clear q24_0 q24_1 q24_2 q24_3 q24_4 q24_5 q24_6 q24_7 q24_8 q24_9 q24_10 q24_f q24_l
          obtain ⟨i, hin, rfl, HB⟩ := hrel
          have m0 := (show HO w wr ([_] ++ boxO k9 [_, _, _] :: _) from (J.out.step HB.out)).c 2 rfl
          by_cases hlt : i < cl.length
          · exfalso
            rw [HF.out.none rfl] at hlt
            simp at hlt
          · obtain rfl : i = cl.length := by omega
            have HJ := Lib.hid (J.out.step HB.out)
            have HT2 := Lib.hid (HT.out.below HB.out)
            go_wp2_with fail
            refine (CE _ HT2.out).out.mono ?_
            rintro e w9 ⟨rfl, hb⟩
            have HJ2 := Lib.hid (HJ.out.step hb).below
            clear hb HJ
            go_wp2_with fail
            go_ret
            exact ⟨rfl, HJ2.out⟩
      | false =>
        rw [his] at q24_6
        have AA := AI his
        clear AI his
        have hwr : IntKind.i64.wrap ((p : Int) * q) = (p : Int) * q := hwr
        go_wp2_with fail
        refine (AA _ _ HI.out).out.mono ?_
        rintro e va ⟨rfl, hb⟩
        replace J := Lib.hid (J.out.step hb)
        replace HS := Lib.hid (HS.out.below hb)
        replace HT := Lib.hid (HT.out.below hb)
        replace HA := Lib.hid (HA.out.below hb)
        replace HD := Lib.hid (HD.out.below hb)
        replace HI := Lib.hid (HI.out.below hb)
        replace HR := Lib.hid (HR.out.below hb)
        clear hb AA
        clear q24_0 q24_1 q24_2 q24_3 q24_4 q24_5 q24_6 q24_7 q24_8 q24_9 q24_10 q24_f q24_l
        go_wp2_with fail
        go_loopw [16] (fun s16 wr => ∃ i : Nat, i ≤ cl.length ∧ s16 = .int .i64 (i : Int) ∧ Hid (Below va.heap.size va wr)) (fun s16 _ => leftN cl.length s16)
        case atStart => exact ⟨0, Nat.zero_le _, rfl, Lib.hid (Below.refl _ _)⟩
        case round =>
          obtain ⟨i, hin, rfl, HB⟩ := hrel
          have m0 := (show HO w wr ([_] ++ boxO k9 [_, _, _] :: _) from (J.out.step HB.out)).c 2 rfl
          by_cases hlt : i < cl.length
          · exfalso
            rw [HF.out.none rfl] at hlt
            simp at hlt
          · obtain rfl : i = cl.length := by omega
            have HJ := Lib.hid (J.out.step HB.out)
            have HT2 := Lib.hid (HT.out.below HB.out)
            go_wp2_with fail
            refine (CE _ HT2.out).out.mono ?_
            rintro e w9 ⟨rfl, hb⟩
            have HJ2 := Lib.hid (HJ.out.step hb).below
            clear hb HJ
            go_wp2_with fail
            go_ret
            exact ⟨rfl, HJ2.out⟩
    | true =>
      have hbl : L.length = 1 := by simpa using HBL0.out
      clear HBL0
      have HB0 := Lib.hid (show ((L.length : Int) == 1) = true by rw [hbl]; rfl)
      have HBL := Lib.hid hbl
      clear hbl
      go_enter Tryz.func8, Tryz.ntmps8
      obtain ⟨q1_0, q1_1, q1_2, q1_3, q1_4, q1_5, q1_6, q1_7, q1_8, q1_9, q1_10, q1_f, q1_l⟩ := (show HO w _ ([] ++ boxO w.heap.size [_, _, _, _, _, _, _, _, _, _, _] :: _) from J.out).c11
      go_wp2_with fail
      refine (CL _ HS.out).out.mono ?_
      rintro e v2 ⟨rfl, hb⟩
      replace J := Lib.hid (J.out.step hb)
      replace HS := Lib.hid (HS.out.below hb)
      replace HT := Lib.hid (HT.out.below hb)
      clear hb CL
      clear q1_0 q1_1 q1_2 q1_3 q1_4 q1_5 q1_6 q1_7 q1_8 q1_9 q1_10 q1_f q1_l
      obtain ⟨q3_0, q3_1, q3_2, q3_3, q3_4, q3_5, q3_6, q3_7, q3_8, q3_9, q3_10, q3_f, q3_l⟩ := (show HO w _ ([] ++ boxO w.heap.size [_, _, _, _, _, _, _, _, _, _, _] :: _) from J.out).c11
      go_wp2_with fail
      refine (CK _ HS.out).out.mono ?_
      rintro e v4 ⟨rfl, hb⟩
      replace J := Lib.hid (J.out.step hb)
      replace HS := Lib.hid (HS.out.below hb)
      replace HT := Lib.hid (HT.out.below hb)
      clear hb CK
      clear q3_0 q3_1 q3_2 q3_3 q3_4 q3_5 q3_6 q3_7 q3_8 q3_9 q3_10 q3_f q3_l
      obtain ⟨q5_0, q5_1, q5_2, q5_3, q5_4, q5_5, q5_6, q5_7, q5_8, q5_9, q5_10, q5_f, q5_l⟩ := (show HO w _ ([] ++ boxO w.heap.size [_, _, _, _, _, _, _, _, _, _, _] :: _) from J.out).c11
      go_wp2_with fail
      refine (CZ _ HS.out).out.mono ?_
      rintro e v6 ⟨rfl, hb⟩
      replace J := Lib.hid (J.out.step hb)
      replace HS := Lib.hid (HS.out.below hb)
      replace HT := Lib.hid (HT.out.below hb)
      clear hb CZ
      clear q5_0 q5_1 q5_2 q5_3 q5_4 q5_5 q5_6 q5_7 q5_8 q5_9 q5_10 q5_f q5_l
      obtain ⟨q7_0, q7_1, q7_2, q7_3, q7_4, q7_5, q7_6, q7_7, q7_8, q7_9, q7_10, q7_f, q7_l⟩ := (show HO w _ ([] ++ boxO w.heap.size [_, _, _, _, _, _, _, _, _, _, _] :: _) from J.out).c11
      go_wp2_with fail
      refine (CC _ HT.out HS.out).out.mono ?_
      rintro e v8 ⟨u9, rfl, hd, hb⟩
      obtain ⟨A2, c2, g1, -, -⟩ := hd.shape
      subst g1
      have HA := Lib.hid hd
      replace J := Lib.hid ((J.out.step hb).alloc [.int .i64 (p : Int), .int .i64 (q : Int), .slice A2 cl.length c2] 42)
      replace HS := Lib.hid (HS.out.below hb)
      replace HT := Lib.hid (HT.out.below hb)
      have hb9 := (Below.refl v8.heap.size v8).alloc (Nat.le_refl _) (.cells ([.int .i64 (p : Int), .int .i64 (q : Int), .slice A2 cl.length c2]).toArray 42)
      replace HS := Lib.hid (HS.out.below hb9)
      replace HT := Lib.hid (HT.out.below hb9)
      replace HA := Lib.hid (HA.out.below hb9)
      clear hb hb9 hd CC
      clear q7_0 q7_1 q7_2 q7_3 q7_4 q7_5 q7_6 q7_7 q7_8 q7_9 q7_10 q7_f q7_l
      go_upto_region 5 with fail
      generalize v8.alloc (.cells #[.int .i64 (p : Int), .int .i64 (q : Int), .slice A2 cl.length c2] 42) = v9 at *
      generalize v8.heap.size = k9 at *
      obtain ⟨q10_0, q10_1, q10_2, q10_3, q10_4, q10_5, q10_6, q10_7, q10_8, q10_9, q10_10, q10_f, q10_l⟩ := (show HO w _ ([_] ++ boxO w.heap.size [_, _, _, _, _, _, _, _, _, _, _] :: _) from J.out).c11
      go_wp2_with fail
      refine (CD _ HS.out).out.mono ?_
      rintro e v11 ⟨u9, rfl, hd, hb⟩
      obtain ⟨A4, c4, g1, -, -⟩ := hd.shape
      subst g1
      have HD0 := Lib.hid hd
      replace J := Lib.hid (J.out.step hb)
      replace HS := Lib.hid (HS.out.below hb)
      replace HT := Lib.hid (HT.out.below hb)
      replace HA := Lib.hid (HA.out.below hb)
      clear hb hd CD
      clear q10_0 q10_1 q10_2 q10_3 q10_4 q10_5 q10_6 q10_7 q10_8 q10_9 q10_10 q10_f q10_l
      have HD := HD0
      clear HD0
      obtain ⟨q12_0, q12_1, q12_2, q12_3, q12_4, q12_5, q12_6, q12_7, q12_8, q12_9, q12_10, q12_f, q12_l⟩ := (show HO w _ ([_] ++ boxO w.heap.size [_, _, _, _, _, _, _, _, _, _, _] :: _) from J.out).c11
      go_wp2_with fail
      refine (CI _ HS.out).out.mono ?_
      rintro e v13 ⟨u9, rfl, hd, hb⟩
      obtain ⟨A6, c6, g1, -, -⟩ := hd.shape
      subst g1
      have HI0 := Lib.hid hd
      replace J := Lib.hid (J.out.step hb)
      replace HS := Lib.hid (HS.out.below hb)
      replace HT := Lib.hid (HT.out.below hb)
      replace HA := Lib.hid (HA.out.below hb)
      replace HD := Lib.hid (HD.out.below hb)
      clear hb hd CI
      clear q12_0 q12_1 q12_2 q12_3 q12_4 q12_5 q12_6 q12_7 q12_8 q12_9 q12_10 q12_f q12_l
      have HI := HI0
      clear HI0
      obtain ⟨q14_0, q14_1, q14_2, q14_3, q14_4, q14_5, q14_6, q14_7, q14_8, q14_9, q14_10, q14_f, q14_l⟩ := (show HO w _ ([_] ++ boxO w.heap.size [_, _, _, _, _, _, _, _, _, _, _] :: _) from J.out).c11
      obtain ⟨q15_0, q15_1, q15_2, q15_f, q15_l⟩ := (show HO w _ ([] ++ boxO k9 [_, _, _] :: _) from J.out).c3
      have hb0 := HB0.out
      have hp := HF.out.pl
      have hq := HF.out.ql
      have hpq : p * q ≤ 65536 := Nat.mul_le_mul hp hq
      have hpi : (p : Int) * q = ((p * q : Nat) : Int) := (Int.natCast_mul p q).symm
      have hwr : IntKind.i64.wrap ((p : Int) * q) = (p : Int) * q := by rw [hpi, IntKind.wrap_i64]; omega
      have hc1 : (cl.length : Int) = (p : Int) * q := by rw [HF.out.len, hpi]
      clear hp hq hpq hpi
      go_wp2_with fail
      refine (KD _ _ HD.out).out.mono ?_
      rintro e v16 ⟨rfl, hb⟩
      replace J := Lib.hid (J.out.step hb)
      replace HS := Lib.hid (HS.out.below hb)
      replace HT := Lib.hid (HT.out.below hb)
      replace HA := Lib.hid (HA.out.below hb)
      replace HD := Lib.hid (HD.out.below hb)
      replace HI := Lib.hid (HI.out.below hb)
      clear hb KD
      clear q14_0 q14_1 q14_2 q14_3 q14_4 q14_5 q14_6 q14_7 q14_8 q14_9 q14_10 q14_f q14_l q15_0 q15_1 q15_2 q15_f q15_l
      obtain ⟨q17_0, q17_1, q17_2, q17_3, q17_4, q17_5, q17_6, q17_7, q17_8, q17_9, q17_10, q17_f, q17_l⟩ := (show HO w _ ([_] ++ boxO w.heap.size [_, _, _, _, _, _, _, _, _, _, _] :: _) from J.out).c11
      obtain ⟨q18_0, q18_1, q18_2, q18_f, q18_l⟩ := (show HO w _ ([] ++ boxO k9 [_, _, _] :: _) from J.out).c3
      go_wp2_with fail
      refine (KI _ _ HI.out).out.mono ?_
      rintro e v19 ⟨rfl, hb⟩
      replace J := Lib.hid (J.out.step hb)
      replace HS := Lib.hid (HS.out.below hb)
      replace HT := Lib.hid (HT.out.below hb)
      replace HA := Lib.hid (HA.out.below hb)
      replace HD := Lib.hid (HD.out.below hb)
      replace HI := Lib.hid (HI.out.below hb)
      clear hb KI
      clear q17_0 q17_1 q17_2 q17_3 q17_4 q17_5 q17_6 q17_7 q17_8 q17_9 q17_10 q17_f q17_l q18_0 q18_1 q18_2 q18_f q18_l
      obtain ⟨q20_0, q20_1, q20_2, q20_3, q20_4, q20_5, q20_6, q20_7, q20_8, q20_9, q20_10, q20_f, q20_l⟩ := (show HO w _ ([_] ++ boxO w.heap.size [_, _, _, _, _, _, _, _, _, _, _] :: _) from J.out).c11
      obtain ⟨q21_0, q21_1, q21_2, q21_f, q21_l⟩ := (show HO w _ ([] ++ boxO k9 [_, _, _] :: _) from J.out).c3
      go_upto_region 10 with fail
      clear hc1
      clear q20_0 q20_1 q20_2 q20_3 q20_4 q20_5 q20_6 q20_7 q20_8 q20_9 q20_10 q20_f q20_l q21_0 q21_1 q21_2 q21_f q21_l
      have HR := Lib.hid (show Rs (v19.alloc (.cells #[.int .i64 (0 : Int), .int .i64 (0 : Int), .int .i64 (p : Int), .int .i64 (q : Int)] 53)) (.slice (some ⟨v19.heap.size, 0, none⟩) 1 1) [⟨0, 0, (p : Int), (q : Int)⟩] from rs_one v19 ⟨0, 0, (p : Int), (q : Int)⟩)
      replace J := Lib.hid (J.out.alloc [.int .i64 (0 : Int), .int .i64 (0 : Int), .int .i64 (p : Int), .int .i64 (q : Int)] 53)
      have hb9 := (Below.refl v19.heap.size v19).alloc (Nat.le_refl _) (.cells #[.int .i64 (0 : Int), .int .i64 (0 : Int), .int .i64 (p : Int), .int .i64 (q : Int)] 53)
      replace HS := Lib.hid (HS.out.below hb9)
      replace HT := Lib.hid (HT.out.below hb9)
      replace HA := Lib.hid (HA.out.below hb9)
      replace HD := Lib.hid (HD.out.below hb9)
      replace HI := Lib.hid (HI.out.below hb9)
      clear hb9
      generalize v19.alloc (.cells #[.int .i64 (0 : Int), .int .i64 (0 : Int), .int .i64 (p : Int), .int .i64 (q : Int)] 53) = vr at *
      generalize v19.heap.size = kr at *
      go_wp2_with fail
      refine (SD _ _ _ HD.out HR.out).out.mono ?_
      rintro e v22 ⟨t9, rfl, hd, hb⟩
      obtain ⟨A8, c8, g1, -, -⟩ := (show Rs _ _ _ from Rgn.OwnR.rs hd).shape
      simp only [List.length_nil] at g1
      subst g1
      replace J := Lib.hid (J.out.step hb)
      replace HS := Lib.hid (HS.out.below hb)
      replace HT := Lib.hid (HT.out.below hb)
      replace HA := Lib.hid (HA.out.below hb)
      replace HD := Lib.hid (HD.out.below hb)
      replace HI := Lib.hid (HI.out.below hb)
      replace HR := Lib.hid (HR.out.below hb)
      clear hb hd SD
      go_wp2_with fail
      refine (SI _ _ _ HI.out HR.out).out.mono ?_
      rintro e v23 ⟨t9, rfl, hd, hb⟩
      obtain ⟨A9, c9, g1, -, -⟩ := (show Rs _ _ _ from Rgn.OwnR.rs hd).shape
      simp only [List.length_nil] at g1
      subst g1
      replace J := Lib.hid (J.out.step hb)
      replace HS := Lib.hid (HS.out.below hb)
      replace HT := Lib.hid (HT.out.below hb)
      replace HA := Lib.hid (HA.out.below hb)
      replace HD := Lib.hid (HD.out.below hb)
      replace HI := Lib.hid (HI.out.below hb)
      replace HR := Lib.hid (HR.out.below hb)
      clear hb hd SI
      obtain ⟨q24_0, q24_1, q24_2, q24_3, q24_4, q24_5, q24_6, q24_7, q24_8, q24_9, q24_10, q24_f, q24_l⟩ := (show HO w _ ([_, _] ++ boxO w.heap.size [_, _, _, _, _, _, _, _, _, _, _] :: _) from J.out).c11
      cases his : s.is with
      | true =>
        rw [his] at q24_6
        clear AI his
        go_wp2_with fail
        go_loopw [16] (fun s16 wr => ∃ i : Nat, i ≤ cl.length ∧ s16 = .int .i64 (i : Int) ∧ Hid (Below v23.heap.size v23 wr)) (fun s16 _ => leftN cl.length s16)
        case atStart => exact ⟨0, Nat.zero_le _, rfl, Lib.hid (Below.refl _ _)⟩
        case round =>
          clear q24_0 q24_1 q24_2 q24_3 q24_4 q24_5 q24_6 q24_7 q24_8 q24_9 q24_10 q24_f q24_l
          obtain ⟨i, hin, rfl, HB⟩ := hrel
          have m0 := (show HO w wr ([_] ++ boxO k9 [_, _, _] :: _) from (J.out.step HB.out)).c 2 rfl
          by_cases hlt : i < cl.length
          · have q0 : (0 : Int) ≤ i := by omega
            have q1 : (i : Int) < cl.length := by omega
            go_upto_region 17 with fail
            have HBd := Lib.hid HB.out.drew
            clear m0
            obtain ⟨z, hz⟩ : ∃ z, cl[i]? = some z := ⟨_, List.getElem?_eq_getElem hlt⟩
            have HSd := Lib.hid (HS.out.below HBd.out)
            have HAd := Lib.hid (HA.out.below HBd.out)
            obtain ⟨y, hy⟩ : ∃ y, L[0]? = some y := ⟨_, List.getElem?_eq_getElem (by rw [HBL.out]; exact Nat.one_pos)⟩
            have hL : L = [y] := by
              have := HBL.out
              match L, this, hy with
              | [a], _, h => rw [show a = y by simpa using h]
            have hbf : s.bf = [y.1] := by rw [← HSd.out.eq, hL]; rfl
            obtain ⟨b9, off9, e9, hl9, h9⟩ := bf_cells HSd.out.bf (by rw [HBL.out]; exact Nat.one_pos) (Below.refl _ _)
            subst e9
            obtain ⟨-, -, y2⟩ := h9 0 y hy
            rw [Nat.zero_mul, Nat.add_zero] at y2
            have hpx := HSd.out.px y (List.mem_of_getElem? hy)
            have HAS := fun (W : World) (hw : Below wr.drew.heap.size wr.drew W) => Lib.hid (has_any (hpx.below hw) (HF.out.mem _ hbf z (List.mem_of_getElem? hz)))
            obtain ⟨Ap, cp, hv, hv1, hv2⟩ := hpx.shape
            rw [hv] at y2 HAS
            obtain ⟨Ax, cx, ex, -, -, h4⟩ := HAd.out
            injection ex with ex1 _ ex3
            subst ex1 ex3
            obtain ⟨bb, off, rfl, hbb, hcs⟩ := h4 (by omega)
            obtain ⟨t0, t1, t2, t3⟩ := hcs i z hz
            have n1 := (show HO w wr.drew ([_, _] ++ boxO w.heap.size [_, _, _, _, _, _, _, _, _, _, _] :: _) from (J.out.step HBd.out)).c 1 rfl
            have n2 := (show HO w wr.drew ([_] ++ boxO k9 [_, _, _] :: _) from (J.out.step HBd.out)).c 2 rfl
            generalize y.1.l.length = np at *
            have l1 : (0 : Int) < L.length := by rw [HBL.out]; decide
            have l2 : 0 < L.length := by rw [HBL.out]; decide
            have l3 : L ≠ [] := fun e => by rw [e] at l2; exact absurd l2 (by decide)
            have f1 := (show HO w wr.drew ([_, _] ++ boxO w.heap.size [_, _, _, _, _, _, _, _, _, _, _] :: _) from (J.out.step HBd.out)).f.2
            have f2 := (show HO w wr.drew ([_] ++ boxO k9 [_, _, _] :: _) from (J.out.step HBd.out)).f.2
            have KP := fun (W : World) (hw : Below wr.drew.heap.size wr.drew W) => Lib.hid (show (W.cell? ⟨w.heap.size, 1, none⟩ = some (.slice (some ⟨b9, off9, none⟩) L.length c1) ∧ W.cell? ⟨b9, off9 + 2, none⟩ = some (.slice Ap np cp) ∧ W.cell? ⟨k9, 2, none⟩ = some (.slice (some ⟨bb, off, none⟩) cl.length c2) ∧ W.cell? ⟨bb, off + i * 4, none⟩ = some (.int .u8 (z.r : Int)) ∧ W.cell? ⟨bb, off + i * 4 + 1, none⟩ = some (.int .u8 (z.g : Int)) ∧ W.cell? ⟨bb, off + i * 4 + 2, none⟩ = some (.int .u8 (z.b : Int)) ∧ W.cell? ⟨bb, off + i * 4 + 3, none⟩ = some (.int .u8 (z.a : Int))) from ⟨(hw.cell f1).trans n1, (hw.cell hl9).trans y2, (hw.cell f2).trans n2, (hw.cell hbb).trans t0, (hw.cell hbb).trans t1, (hw.cell hbb).trans t2, (hw.cell hbb).trans t3⟩)
            have sk := (KP _ (Below.refl _ _)).out
            clear n1 n2 f1 f2 y2 t0 t1 t2 t3 hbb
            clear hcs h4 h9 hl9 hbf hL hy hz hv hpx HSd HAd
            go_region_held3 (fun W => W.cell? ⟨w.heap.size, 1, none⟩ = some (.slice (some ⟨b9, off9, none⟩) L.length c1) ∧ W.cell? ⟨b9, off9 + 2, none⟩ = some (.slice Ap np cp) ∧ W.cell? ⟨k9, 2, none⟩ = some (.slice (some ⟨bb, off, none⟩) cl.length c2) ∧ W.cell? ⟨bb, off + i * 4, none⟩ = some (.int .u8 (z.r : Int)) ∧ W.cell? ⟨bb, off + i * 4 + 1, none⟩ = some (.int .u8 (z.g : Int)) ∧ W.cell? ⟨bb, off + i * 4 + 2, none⟩ = some (.int .u8 (z.b : Int)) ∧ W.cell? ⟨bb, off + i * 4 + 3, none⟩ = some (.int .u8 (z.a : Int)))
              (first | exact sk | go_keep)
              (first | (go_at_call 34; (with_reducible refine (HAS _ (Below.refl _ _)).out.mono ?_); rintro e w9 ⟨rfl, hb⟩; have HN := Lib.hid (Below.next HBd.out hb); clear sk; have sk := (KP _ hb).out; clear hb) | fail)
            all_goals
              clear sk
              have hb8 : cl.length ≤ 65536 := by rw [HF.out.len]; exact Nat.mul_le_mul HF.out.pl HF.out.ql
              go_wp2_with fail
              go_roundw
              case rel => exact ⟨i + 1, by omega, by go_num, Lib.hid HN.out⟩
              case measure =>
                unfold leftN
                simp [RowKit.intOf]
                omega
          · obtain rfl : i = cl.length := by omega
            have HJ := Lib.hid (J.out.step HB.out)
            have HT2 := Lib.hid (HT.out.below HB.out)
            obtain ⟨o1, o2⟩ := HF.out.one rfl
            have o3 : (1 : Int) ≤ p := by omega
            have o4 : (1 : Int) ≤ q := by omega
            go_wp2_with fail
            refine (CE _ HT2.out).out.mono ?_
            rintro e w9 ⟨rfl, hb⟩
            have HJ2 := Lib.hid (HJ.out.step hb).below
            clear hb HJ
            go_wp2_with fail
            go_ret
            exact ⟨rfl, HJ2.out⟩
      | false =>
        rw [his] at q24_6
        have AA := AI his
        clear AI his
        have hwr : IntKind.i64.wrap ((p : Int) * q) = (p : Int) * q := hwr
        go_wp2_with fail
        refine (AA _ _ HI.out).out.mono ?_
        rintro e va ⟨rfl, hb⟩
        replace J := Lib.hid (J.out.step hb)
        replace HS := Lib.hid (HS.out.below hb)
        replace HT := Lib.hid (HT.out.below hb)
        replace HA := Lib.hid (HA.out.below hb)
        replace HD := Lib.hid (HD.out.below hb)
        replace HI := Lib.hid (HI.out.below hb)
        replace HR := Lib.hid (HR.out.below hb)
        clear hb AA
        clear q24_0 q24_1 q24_2 q24_3 q24_4 q24_5 q24_6 q24_7 q24_8 q24_9 q24_10 q24_f q24_l
        go_wp2_with fail
        go_loopw [16] (fun s16 wr => ∃ i : Nat, i ≤ cl.length ∧ s16 = .int .i64 (i : Int) ∧ Hid (Below va.heap.size va wr)) (fun s16 _ => leftN cl.length s16)
        case atStart => exact ⟨0, Nat.zero_le _, rfl, Lib.hid (Below.refl _ _)⟩
        case round =>
          obtain ⟨i, hin, rfl, HB⟩ := hrel
          have m0 := (show HO w wr ([_] ++ boxO k9 [_, _, _] :: _) from (J.out.step HB.out)).c 2 rfl
          by_cases hlt : i < cl.length
          · have q0 : (0 : Int) ≤ i := by omega
            have q1 : (i : Int) < cl.length := by omega
            go_upto_region 17 with fail
            have HBd := Lib.hid HB.out.drew
            clear m0
            obtain ⟨z, hz⟩ : ∃ z, cl[i]? = some z := ⟨_, List.getElem?_eq_getElem hlt⟩
            have HSd := Lib.hid (HS.out.below HBd.out)
            have HAd := Lib.hid (HA.out.below HBd.out)
            obtain ⟨y, hy⟩ : ∃ y, L[0]? = some y := ⟨_, List.getElem?_eq_getElem (by rw [HBL.out]; exact Nat.one_pos)⟩
            have hL : L = [y] := by
              have := HBL.out
              match L, this, hy with
              | [a], _, h => rw [show a = y by simpa using h]
            have hbf : s.bf = [y.1] := by rw [← HSd.out.eq, hL]; rfl
            obtain ⟨b9, off9, e9, hl9, h9⟩ := bf_cells HSd.out.bf (by rw [HBL.out]; exact Nat.one_pos) (Below.refl _ _)
            subst e9
            obtain ⟨-, -, y2⟩ := h9 0 y hy
            rw [Nat.zero_mul, Nat.add_zero] at y2
            have hpx := HSd.out.px y (List.mem_of_getElem? hy)
            have HAS := fun (W : World) (hw : Below wr.drew.heap.size wr.drew W) => Lib.hid (has_any (hpx.below hw) (HF.out.mem _ hbf z (List.mem_of_getElem? hz)))
            obtain ⟨Ap, cp, hv, hv1, hv2⟩ := hpx.shape
            rw [hv] at y2 HAS
            obtain ⟨Ax, cx, ex, -, -, h4⟩ := HAd.out
            injection ex with ex1 _ ex3
            subst ex1 ex3
            obtain ⟨bb, off, rfl, hbb, hcs⟩ := h4 (by omega)
            obtain ⟨t0, t1, t2, t3⟩ := hcs i z hz
            have n1 := (show HO w wr.drew ([_, _] ++ boxO w.heap.size [_, _, _, _, _, _, _, _, _, _, _] :: _) from (J.out.step HBd.out)).c 1 rfl
            have n2 := (show HO w wr.drew ([_] ++ boxO k9 [_, _, _] :: _) from (J.out.step HBd.out)).c 2 rfl
            generalize y.1.l.length = np at *
            have l1 : (0 : Int) < L.length := by rw [HBL.out]; decide
            have l2 : 0 < L.length := by rw [HBL.out]; decide
            have l3 : L ≠ [] := fun e => by rw [e] at l2; exact absurd l2 (by decide)
            have f1 := (show HO w wr.drew ([_, _] ++ boxO w.heap.size [_, _, _, _, _, _, _, _, _, _, _] :: _) from (J.out.step HBd.out)).f.2
            have f2 := (show HO w wr.drew ([_] ++ boxO k9 [_, _, _] :: _) from (J.out.step HBd.out)).f.2
            have KP := fun (W : World) (hw : Below wr.drew.heap.size wr.drew W) => Lib.hid (show (W.cell? ⟨w.heap.size, 1, none⟩ = some (.slice (some ⟨b9, off9, none⟩) L.length c1) ∧ W.cell? ⟨b9, off9 + 2, none⟩ = some (.slice Ap np cp) ∧ W.cell? ⟨k9, 2, none⟩ = some (.slice (some ⟨bb, off, none⟩) cl.length c2) ∧ W.cell? ⟨bb, off + i * 4, none⟩ = some (.int .u8 (z.r : Int)) ∧ W.cell? ⟨bb, off + i * 4 + 1, none⟩ = some (.int .u8 (z.g : Int)) ∧ W.cell? ⟨bb, off + i * 4 + 2, none⟩ = some (.int .u8 (z.b : Int)) ∧ W.cell? ⟨bb, off + i * 4 + 3, none⟩ = some (.int .u8 (z.a : Int))) from ⟨(hw.cell f1).trans n1, (hw.cell hl9).trans y2, (hw.cell f2).trans n2, (hw.cell hbb).trans t0, (hw.cell hbb).trans t1, (hw.cell hbb).trans t2, (hw.cell hbb).trans t3⟩)
            have sk := (KP _ (Below.refl _ _)).out
            clear n1 n2 f1 f2 y2 t0 t1 t2 t3 hbb
            clear hcs h4 h9 hl9 hbf hL hy hz hv hpx HSd HAd
            go_region_held3 (fun W => W.cell? ⟨w.heap.size, 1, none⟩ = some (.slice (some ⟨b9, off9, none⟩) L.length c1) ∧ W.cell? ⟨b9, off9 + 2, none⟩ = some (.slice Ap np cp) ∧ W.cell? ⟨k9, 2, none⟩ = some (.slice (some ⟨bb, off, none⟩) cl.length c2) ∧ W.cell? ⟨bb, off + i * 4, none⟩ = some (.int .u8 (z.r : Int)) ∧ W.cell? ⟨bb, off + i * 4 + 1, none⟩ = some (.int .u8 (z.g : Int)) ∧ W.cell? ⟨bb, off + i * 4 + 2, none⟩ = some (.int .u8 (z.b : Int)) ∧ W.cell? ⟨bb, off + i * 4 + 3, none⟩ = some (.int .u8 (z.a : Int)))
              (first | exact sk | go_keep)
              (first | (go_at_call 34; (with_reducible refine (HAS _ (Below.refl _ _)).out.mono ?_); rintro e w9 ⟨rfl, hb⟩; have HN := Lib.hid (Below.next HBd.out hb); clear sk; have sk := (KP _ hb).out; clear hb) | fail)
            all_goals
              clear sk
              have hb8 : cl.length ≤ 65536 := by rw [HF.out.len]; exact Nat.mul_le_mul HF.out.pl HF.out.ql
              go_wp2_with fail
              go_roundw
              case rel => exact ⟨i + 1, by omega, by go_num, Lib.hid HN.out⟩
              case measure =>
                unfold leftN
                simp [RowKit.intOf]
                omega
          · obtain rfl : i = cl.length := by omega
            have HJ := Lib.hid (J.out.step HB.out)
            have HT2 := Lib.hid (HT.out.below HB.out)
            obtain ⟨o1, o2⟩ := HF.out.one rfl
            have o3 : (1 : Int) ≤ p := by omega
            have o4 : (1 : Int) ≤ q := by omega
            go_wp2_with fail
            refine (CE _ HT2.out).out.mono ?_
            rintro e w9 ⟨rfl, hb⟩
            have HJ2 := Lib.hid (HJ.out.step hb).below
            clear hb HJ
            go_wp2_with fail
            go_ret
            exact ⟨rfl, HJ2.out⟩

end Go.Proofs.YthedglfocjljjaaGreatDoor
