/-
  The law StateAtomicMerge: its walk.
-/
import Derived.Test.YthedglfocjljjaaGreatDoorExm
import Derived.Test.YthedglfocjljjaaGreatDoorSmu
import Derived.Test.YthedglfocjljjaaGreatDoorSpr
import Derived.Test.YthedglfocjljjaaGreatDoorSrh
namespace Go.Proofs.YthedglfocjljjaaGreatDoor
open Go.RowKit

theorem below_cell {B k i : Nat} {u : Value} {w w1 : World} (h : Below B w w1) (hb : B ≤ k) : Below B w (w1.setCell ⟨k, i, none⟩ u) :=
  ⟨h.os, h.tape, h.output, by rw [World.size_setCell]; exact h.size, fun j hj => (Below.heap_setCell w1 ⟨k, i, none⟩ u j (fun e => by have : j = k := e; omega)).trans (h.block j hj)⟩
/-- what is older than the bound is kept -/
structure BW (B : Nat) (w W : World) : Prop where
  b : Below B w W
  le : B ≤ W.heap.size
theorem BW.below {B : Nat} {w W W' : World} (h : BW B w W) (hb : Below W.heap.size W W') : BW B w W' := ⟨h.b.trans (hb.mono h.le), Nat.le_trans h.le hb.size⟩
theorem BW.cell {B k i : Nat} {u : Value} {w W : World} (h : BW B w W) (hk : B ≤ k) : BW B w (W.setCell ⟨k, i, none⟩ u) := ⟨below_cell h.b hk, by rw [World.size_setCell]; exact h.le⟩
theorem mcb_left {m c p : List Nat} {b : Bool} {i : Nat} (h : m = if b = true then c ++ p else c) (hi : i < c.length) : m[i]? = c[i]? := by
  cases b
  · rw [h]; rfl
  · rw [h, if_pos rfl, List.getElem?_append_left hi]
theorem mcb_right {m c p : List Nat} {b : Bool} {i : Nat} (h : m = if b = true then c ++ p else c) (hi : c.length ≤ i) (hm : i < m.length) : m[i]? = p[i - c.length]? := by
  cases b
  · rw [if_neg (by simp)] at h
    rw [h] at hm
    omega
  · rw [h, if_pos rfl, List.getElem?_append_right hi]
theorem mcb_len {m c p : List Nat} {b : Bool} (h : m = if b = true then c ++ p else c) : m.length ≤ c.length + p.length := by
  cases b
  · rw [h]; simp
  · rw [h]; simp
set_option maxHeartbeats 4000000 in
theorem prt_mrg (c p : St) : (if bitB p.set 8 = true then { prtK p c p.set 6 with dm := p.dm } else prtK p c p.set 6) = { mrgS c p with cb := [] } := by
  rw [mrgS_eq]
  have e1 : prtK p c p.set 1 = (if bitB p.set 1 = true then stpS 0 c p { c with set := 0, dm := [], cb := [] } else { c with set := 0, dm := [], cb := [] }) := rfl
  have e2 : prtK p c p.set 2 = (if bitB p.set 2 = true then stpS 1 c p (prtK p c p.set 1) else prtK p c p.set 1) := rfl
  have e3 : prtK p c p.set 3 = (if bitB p.set 4 = true then stpS 2 c p (prtK p c p.set 2) else prtK p c p.set 2) := rfl
  have e4 : prtK p c p.set 4 = (if bitB p.set 16 = true then stpS 4 c p (prtK p c p.set 3) else prtK p c p.set 3) := rfl
  have e5 : prtK p c p.set 5 = (if bitB p.set 32 = true then stpS 5 c p (prtK p c p.set 4) else prtK p c p.set 4) := rfl
  have e6 : prtK p c p.set 6 = (if bitB p.set 64 = true then stpS 6 c p (prtK p c p.set 5) else prtK p c p.set 5) := rfl
  rw [e6, e5, e4, e3, e2, e1]
  generalize bitB p.set 1 = b1
  generalize bitB p.set 2 = b2
  generalize bitB p.set 4 = b4
  generalize bitB p.set 8 = b8
  generalize bitB p.set 16 = b16
  generalize bitB p.set 32 = b32
  generalize bitB p.set 64 = b64
  cases b1 <;> cases b2 <;> cases b4 <;> cases b8 <;> cases b16 <;> cases b32 <;> cases b64 <;> rfl
theorem mrg_cbs (c p : St) : (mrgS c p).cb = if bitB p.set 128 = true then c.cb ++ p.cb else c.cb := by rw [mrgS_eq]

set_option maxRecDepth 100000 in
set_option maxHeartbeats 16000000 in
theorem atomic_walk {w : World} (T : Trf.Tab w) {c p : St} {L M : List Bv} {vb vd vo vi vc ub ud uo ui uc : Value} (h : StAt w c L vb vd vo vi vc) (g : StAt w p M ub ud uo ui uc) :
    Calls Tryz.prog 6 #[stV c vb vd vo vi vc, stV p ub ud uo ui uc] w fun e w' => e = .returned (.bool true) ∧ Below w.heap.size w w' := by
  obtain ⟨A1, c1, rfl, h11, h21⟩ := h.bf.shape
  obtain ⟨Ad1, cd1, rfl, hd11, hd21⟩ := h.dm.shape
  obtain ⟨Ao1, co1, rfl, ho11, ho21⟩ := h.op.shape
  obtain ⟨Ai1, ci1, rfl, hi11, hi21⟩ := h.ip.shape
  obtain ⟨Ac1, cc1, rfl, hc11, hc21⟩ := h.cb.shape
  obtain ⟨A2, c2, rfl, h12, h22⟩ := g.bf.shape
  obtain ⟨Ad2, cd2, rfl, hd12, hd22⟩ := g.dm.shape
  obtain ⟨Ao2, co2, rfl, ho12, ho22⟩ := g.op.shape
  obtain ⟨Ai2, ci2, rfl, hi12, hi22⟩ := g.ip.shape
  obtain ⟨Ac2, cc2, rfl, hc12, hc22⟩ := g.cb.shape
  have HC := Lib.hid h
  have HP := Lib.hid g
  have HT := Lib.hid T
  have HC0 := Lib.hid h
  have HP0 := Lib.hid g
  have HT0 := Lib.hid T
  have CL := fun (W : World) (h : StAt W c L (.slice A1 L.length c1) (.slice Ad1 c.dm.length cd1) (.slice Ao1 c.op.length co1) (.slice Ai1 c.ip.length ci1) (.slice Ac1 c.cb.length cc1)) => Lib.hid (light_any h)
  have PL := fun (W : World) (h : StAt W p M (.slice A2 M.length c2) (.slice Ad2 p.dm.length cd2) (.slice Ao2 p.op.length co2) (.slice Ai2 p.ip.length ci2) (.slice Ac2 p.cb.length cc2)) => Lib.hid (light_any h)
  have CE := fun (W : World) (T : Trf.Tab W) => Lib.hid (ex_any T)
  have J := Lib.hid (show HO w _ [boxO (w.heap.size + 1) (stC p (.slice A2 M.length c2) (.slice Ad2 p.dm.length cd2) (.slice Ao2 p.op.length co2) (.slice Ai2 p.ip.length ci2) (.slice Ac2 p.cb.length cc2)), boxO w.heap.size (stC c (.slice A1 L.length c1) (.slice Ad1 c.dm.length cd1) (.slice Ao1 c.op.length co1) (.slice Ai1 c.ip.length ci1) (.slice Ac1 c.cb.length cc1))] from by
    have h := ((HO.nil w).alloc (stC c (.slice A1 L.length c1) (.slice Ad1 c.dm.length cd1) (.slice Ao1 c.op.length co1) (.slice Ai1 c.ip.length ci1) (.slice Ac1 c.cb.length cc1)) 28).alloc (stC p (.slice A2 M.length c2) (.slice Ad2 p.dm.length cd2) (.slice Ao2 p.op.length co2) (.slice Ai2 p.ip.length ci2) (.slice Ac2 p.cb.length cc2)) 28
    simp only [World.size_alloc] at h
    exact h)
  have hb := J.out.below
  replace HC := Lib.hid (HC.out.below hb)
  replace HP := Lib.hid (HP.out.below hb)
  replace HT := Lib.hid (HT.out.below hb)
  clear h g T hb
  cases hl : lightB c with
  | false =>
    rw [hl] at CL
    clear hl
    go_enter Tryz.func6, Tryz.ntmps6
    obtain ⟨q1_0, q1_1, q1_2, q1_3, q1_4, q1_5, q1_6, q1_7, q1_8, q1_9, q1_10, q1_f, q1_l⟩ := (show HO w _ ([_] ++ boxO w.heap.size [_, _, _, _, _, _, _, _, _, _, _] :: _) from J.out).c11
    obtain ⟨q2_0, q2_1, q2_2, q2_3, q2_4, q2_5, q2_6, q2_7, q2_8, q2_9, q2_10, q2_f, q2_l⟩ := (show HO w _ ([] ++ boxO (w.heap.size + 1) [_, _, _, _, _, _, _, _, _, _, _] :: _) from J.out).c11
    go_wp2_with fail
    refine (CL _ HC.out).out.mono ?_
    rintro e v3 ⟨rfl, hb⟩
    replace J := Lib.hid (J.out.step hb)
    replace HC := Lib.hid (HC.out.below hb)
    replace HP := Lib.hid (HP.out.below hb)
    replace HT := Lib.hid (HT.out.below hb)
    clear hb
    clear q1_0 q1_1 q1_2 q1_3 q1_4 q1_5 q1_6 q1_7 q1_8 q1_9 q1_10 q1_f q1_l q2_0 q2_1 q2_2 q2_3 q2_4 q2_5 q2_6 q2_7 q2_8 q2_9 q2_10 q2_f q2_l
    obtain ⟨q4_0, q4_1, q4_2, q4_3, q4_4, q4_5, q4_6, q4_7, q4_8, q4_9, q4_10, q4_f, q4_l⟩ := (show HO w _ ([_] ++ boxO w.heap.size [_, _, _, _, _, _, _, _, _, _, _] :: _) from J.out).c11
    obtain ⟨q5_0, q5_1, q5_2, q5_3, q5_4, q5_5, q5_6, q5_7, q5_8, q5_9, q5_10, q5_f, q5_l⟩ := (show HO w _ ([] ++ boxO (w.heap.size + 1) [_, _, _, _, _, _, _, _, _, _, _] :: _) from J.out).c11
    go_wp2_with fail
    refine (CE _ HT.out).out.mono ?_
    rintro e v6 ⟨rfl, hb⟩
    replace J := Lib.hid (J.out.step hb)
    replace HC := Lib.hid (HC.out.below hb)
    replace HP := Lib.hid (HP.out.below hb)
    replace HT := Lib.hid (HT.out.below hb)
    clear hb
    clear q4_0 q4_1 q4_2 q4_3 q4_4 q4_5 q4_6 q4_7 q4_8 q4_9 q4_10 q4_f q4_l q5_0 q5_1 q5_2 q5_3 q5_4 q5_5 q5_6 q5_7 q5_8 q5_9 q5_10 q5_f q5_l
    go_wp2_with fail
    go_ret
    exact ⟨rfl, J.out.below⟩
  | true =>
    rw [hl] at CL
    cases hm : lightB p with
    | false =>
      rw [hm] at PL
      clear hl hm
      go_enter Tryz.func6, Tryz.ntmps6
      obtain ⟨q1_0, q1_1, q1_2, q1_3, q1_4, q1_5, q1_6, q1_7, q1_8, q1_9, q1_10, q1_f, q1_l⟩ := (show HO w _ ([_] ++ boxO w.heap.size [_, _, _, _, _, _, _, _, _, _, _] :: _) from J.out).c11
      obtain ⟨q2_0, q2_1, q2_2, q2_3, q2_4, q2_5, q2_6, q2_7, q2_8, q2_9, q2_10, q2_f, q2_l⟩ := (show HO w _ ([] ++ boxO (w.heap.size + 1) [_, _, _, _, _, _, _, _, _, _, _] :: _) from J.out).c11
      go_wp2_with fail
      refine (CL _ HC.out).out.mono ?_
      rintro e v3 ⟨rfl, hb⟩
      replace J := Lib.hid (J.out.step hb)
      replace HC := Lib.hid (HC.out.below hb)
      replace HP := Lib.hid (HP.out.below hb)
      replace HT := Lib.hid (HT.out.below hb)
      clear hb
      clear q1_0 q1_1 q1_2 q1_3 q1_4 q1_5 q1_6 q1_7 q1_8 q1_9 q1_10 q1_f q1_l q2_0 q2_1 q2_2 q2_3 q2_4 q2_5 q2_6 q2_7 q2_8 q2_9 q2_10 q2_f q2_l
      obtain ⟨q4_0, q4_1, q4_2, q4_3, q4_4, q4_5, q4_6, q4_7, q4_8, q4_9, q4_10, q4_f, q4_l⟩ := (show HO w _ ([_] ++ boxO w.heap.size [_, _, _, _, _, _, _, _, _, _, _] :: _) from J.out).c11
      obtain ⟨q5_0, q5_1, q5_2, q5_3, q5_4, q5_5, q5_6, q5_7, q5_8, q5_9, q5_10, q5_f, q5_l⟩ := (show HO w _ ([] ++ boxO (w.heap.size + 1) [_, _, _, _, _, _, _, _, _, _, _] :: _) from J.out).c11
      go_wp2_with fail
      refine (PL _ HP.out).out.mono ?_
      rintro e v6 ⟨rfl, hb⟩
      replace J := Lib.hid (J.out.step hb)
      replace HC := Lib.hid (HC.out.below hb)
      replace HP := Lib.hid (HP.out.below hb)
      replace HT := Lib.hid (HT.out.below hb)
      clear hb
      clear q4_0 q4_1 q4_2 q4_3 q4_4 q4_5 q4_6 q4_7 q4_8 q4_9 q4_10 q4_f q4_l q5_0 q5_1 q5_2 q5_3 q5_4 q5_5 q5_6 q5_7 q5_8 q5_9 q5_10 q5_f q5_l
      obtain ⟨q7_0, q7_1, q7_2, q7_3, q7_4, q7_5, q7_6, q7_7, q7_8, q7_9, q7_10, q7_f, q7_l⟩ := (show HO w _ ([_] ++ boxO w.heap.size [_, _, _, _, _, _, _, _, _, _, _] :: _) from J.out).c11
      obtain ⟨q8_0, q8_1, q8_2, q8_3, q8_4, q8_5, q8_6, q8_7, q8_8, q8_9, q8_10, q8_f, q8_l⟩ := (show HO w _ ([] ++ boxO (w.heap.size + 1) [_, _, _, _, _, _, _, _, _, _, _] :: _) from J.out).c11
      go_wp2_with fail
      refine (CE _ HT.out).out.mono ?_
      rintro e v9 ⟨rfl, hb⟩
      replace J := Lib.hid (J.out.step hb)
      replace HC := Lib.hid (HC.out.below hb)
      replace HP := Lib.hid (HP.out.below hb)
      replace HT := Lib.hid (HT.out.below hb)
      clear hb
      clear q7_0 q7_1 q7_2 q7_3 q7_4 q7_5 q7_6 q7_7 q7_8 q7_9 q7_10 q7_f q7_l q8_0 q8_1 q8_2 q8_3 q8_4 q8_5 q8_6 q8_7 q8_8 q8_9 q8_10 q8_f q8_l
      go_wp2_with fail
      go_ret
      exact ⟨rfl, J.out.below⟩
    | true =>
      rw [hm] at PL
      have hf := ((light_sml hl).mrg (light_sml hm)).few (by decide)
      have hfc := light_few hl
      have hfp := light_few hm
      have CP := fun (W : World) (h : StAt W c L (.slice A1 L.length c1) (.slice Ad1 c.dm.length cd1) (.slice Ao1 c.op.length co1) (.slice Ai1 c.ip.length ci1) (.slice Ac1 c.cb.length cc1)) (g : StAt W p M (.slice A2 M.length c2) (.slice Ad2 p.dm.length cd2) (.slice Ao2 p.op.length co2) (.slice Ai2 p.ip.length ci2) (.slice Ac2 p.cb.length cc2)) => Lib.hid (part_any (n := p.set) g h)
      have CM := fun (W : World) (h : StAt W c L (.slice A1 L.length c1) (.slice Ad1 c.dm.length cd1) (.slice Ao1 c.op.length co1) (.slice Ai1 c.ip.length ci1) (.slice Ac1 c.cb.length cc1)) (g : StAt W p M (.slice A2 M.length c2) (.slice Ad2 p.dm.length cd2) (.slice Ao2 p.op.length co2) (.slice Ai2 p.ip.length ci2) (.slice Ac2 p.cb.length cc2)) => Lib.hid (merge_any rg h g (Nat.le_trans hfc.cb (by decide)) (Nat.le_trans hfp.cb (by decide)) hf)
      have HPM := Lib.hid (prt_mrg c p)
      have HMC := Lib.hid (mrg_cbs c p)
      have hcb := hfc.cb
      have hpb := hfp.cb
      unfold MrO mrgR at CM
      unfold PrO at CP
      generalize mrgS c p = m at *
      have CK := fun (W : World) (L5 : List Bv) (vb vd vo vi vc : Value) (h : StAt W { m with cb := [] } L5 vb vd vo vi vc) => Lib.hid (chk_any rg h ⟨hf.dm, hf.op, hf.ip, by simp, hf.bf, hf.px⟩)
      rw [show chkS { m with cb := [] } = chkS m from rfl] at CK
      generalize prtK p c p.set 6 = s5 at *
      clear hl hm hf hfc hfp
      obtain ⟨B8, hB8⟩ : ∃ B, bits .and .i64 p.set 8 = B := ⟨_, rfl⟩
      have HB8 := Lib.hid (show bitB p.set 8 = decide (B8 ≠ 0) from by rw [← hB8]; rfl)
      obtain ⟨B9, hB9⟩ : ∃ B, bits .and .i64 p.set 128 = B := ⟨_, rfl⟩
      have HB9 := Lib.hid (show bitB p.set 128 = decide (B9 ≠ 0) from by rw [← hB9]; rfl)
      have HB9e := Lib.hid hB9
      clear hB9
      go_enter Tryz.func6, Tryz.ntmps6
      obtain ⟨q1_0, q1_1, q1_2, q1_3, q1_4, q1_5, q1_6, q1_7, q1_8, q1_9, q1_10, q1_f, q1_l⟩ := (show HO w _ ([_] ++ boxO w.heap.size [_, _, _, _, _, _, _, _, _, _, _] :: _) from J.out).c11
      obtain ⟨q2_0, q2_1, q2_2, q2_3, q2_4, q2_5, q2_6, q2_7, q2_8, q2_9, q2_10, q2_f, q2_l⟩ := (show HO w _ ([] ++ boxO (w.heap.size + 1) [_, _, _, _, _, _, _, _, _, _, _] :: _) from J.out).c11
      go_wp2_with fail
      refine (CL _ HC.out).out.mono ?_
      rintro e v3 ⟨rfl, hb⟩
      replace J := Lib.hid (J.out.step hb)
      replace HC := Lib.hid (HC.out.below hb)
      replace HP := Lib.hid (HP.out.below hb)
      replace HT := Lib.hid (HT.out.below hb)
      clear hb CL
      clear q1_0 q1_1 q1_2 q1_3 q1_4 q1_5 q1_6 q1_7 q1_8 q1_9 q1_10 q1_f q1_l q2_0 q2_1 q2_2 q2_3 q2_4 q2_5 q2_6 q2_7 q2_8 q2_9 q2_10 q2_f q2_l
      obtain ⟨q4_0, q4_1, q4_2, q4_3, q4_4, q4_5, q4_6, q4_7, q4_8, q4_9, q4_10, q4_f, q4_l⟩ := (show HO w _ ([_] ++ boxO w.heap.size [_, _, _, _, _, _, _, _, _, _, _] :: _) from J.out).c11
      obtain ⟨q5_0, q5_1, q5_2, q5_3, q5_4, q5_5, q5_6, q5_7, q5_8, q5_9, q5_10, q5_f, q5_l⟩ := (show HO w _ ([] ++ boxO (w.heap.size + 1) [_, _, _, _, _, _, _, _, _, _, _] :: _) from J.out).c11
      go_wp2_with fail
      refine (PL _ HP.out).out.mono ?_
      rintro e v6 ⟨rfl, hb⟩
      replace J := Lib.hid (J.out.step hb)
      replace HC := Lib.hid (HC.out.below hb)
      replace HP := Lib.hid (HP.out.below hb)
      replace HT := Lib.hid (HT.out.below hb)
      clear hb PL
      clear q4_0 q4_1 q4_2 q4_3 q4_4 q4_5 q4_6 q4_7 q4_8 q4_9 q4_10 q4_f q4_l q5_0 q5_1 q5_2 q5_3 q5_4 q5_5 q5_6 q5_7 q5_8 q5_9 q5_10 q5_f q5_l
      obtain ⟨q7_0, q7_1, q7_2, q7_3, q7_4, q7_5, q7_6, q7_7, q7_8, q7_9, q7_10, q7_f, q7_l⟩ := (show HO w _ ([_] ++ boxO w.heap.size [_, _, _, _, _, _, _, _, _, _, _] :: _) from J.out).c11
      obtain ⟨q8_0, q8_1, q8_2, q8_3, q8_4, q8_5, q8_6, q8_7, q8_8, q8_9, q8_10, q8_f, q8_l⟩ := (show HO w _ ([] ++ boxO (w.heap.size + 1) [_, _, _, _, _, _, _, _, _, _, _] :: _) from J.out).c11
      go_wp2_with fail
      refine (CP _ HC.out HP.out).out.mono ?_
      rintro e v9 ⟨L5, vb5, vd5, vo5, vi5, vc5, rfl, hm5, hb⟩
      obtain ⟨A5, c5, g1, -, -⟩ := hm5.bf.shape
      obtain ⟨Ad5, cd5, g2, -, -⟩ := hm5.dm.shape
      obtain ⟨Ao5, co5, g3, -, -⟩ := hm5.op.shape
      obtain ⟨Ai5, ci5, g4, -, -⟩ := hm5.ip.shape
      obtain ⟨Ac5, cc5, g5, -, -⟩ := hm5.cb.shape
      subst g1 g2 g3 g4 g5
      have HW5 := Lib.hid (fun (W : World) (hb : Below v9.heap.size v9 W) => hm5.below hb)
      have B5 := Lib.hid (show BW v9.heap.size v9 _ from ⟨(Below.refl v9.heap.size v9).alloc (Nat.le_refl _) (.cells (stC s5 (.slice A5 L5.length c5) (.slice Ad5 s5.dm.length cd5) (.slice Ao5 s5.op.length co5) (.slice Ai5 s5.ip.length ci5) (.slice Ac5 s5.cb.length cc5)).toArray 28), by simp⟩)
      have HPW := Lib.hid (fun (W : World) (hb2 : Below v9.heap.size v9 W) => (HP.out.below hb).below hb2)
      replace J := Lib.hid ((J.out.step hb).alloc (stC s5 (.slice A5 L5.length c5) (.slice Ad5 s5.dm.length cd5) (.slice Ao5 s5.op.length co5) (.slice Ai5 s5.ip.length ci5) (.slice Ac5 s5.cb.length cc5)) 28)
      replace HC := Lib.hid (HC.out.below hb)
      replace HP := Lib.hid (HP.out.below hb)
      replace HT := Lib.hid (HT.out.below hb)
      have hb9 := (Below.refl v9.heap.size v9).alloc (Nat.le_refl _) (.cells ((stC s5 (.slice A5 L5.length c5) (.slice Ad5 s5.dm.length cd5) (.slice Ao5 s5.op.length co5) (.slice Ai5 s5.ip.length ci5) (.slice Ac5 s5.cb.length cc5))).toArray 28)
      replace HC := Lib.hid (HC.out.below hb9)
      replace HP := Lib.hid (HP.out.below hb9)
      replace HT := Lib.hid (HT.out.below hb9)
      clear hb hb9 hm5 CP
      clear q7_0 q7_1 q7_2 q7_3 q7_4 q7_5 q7_6 q7_7 q7_8 q7_9 q7_10 q7_f q7_l q8_0 q8_1 q8_2 q8_3 q8_4 q8_5 q8_6 q8_7 q8_8 q8_9 q8_10 q8_f q8_l
      go_upto_region 4 with fail
      generalize v9.alloc (.cells #[.int .i64 s5.set, .slice A5 L5.length c5, .int .i64 s5.sc, .int .i64 s5.tr, .slice Ad5 s5.dm.length cd5, .slice Ao5 s5.op.length co5, .bool s5.is, .slice Ai5 s5.ip.length ci5, .int .i64 s5.dx, .int .i64 s5.dy, .slice Ac5 s5.cb.length cc5] 28) = v10 at *
      generalize v9.heap.size = k5 at *
      obtain ⟨q11_0, q11_1, q11_2, q11_3, q11_4, q11_5, q11_6, q11_7, q11_8, q11_9, q11_10, q11_f, q11_l⟩ := (show HO w _ ([_] ++ boxO (w.heap.size + 1) [_, _, _, _, _, _, _, _, _, _, _] :: _) from J.out).c11
      go_upto_if 28 with (fail)
      clear q11_0 q11_1 q11_2 q11_3 q11_4 q11_5 q11_6 q11_7 q11_8 q11_9 q11_10 q11_f q11_l
      go_cut [] from 25 (fun wx => ∃ (L6 : List Bv) (A6 : Option Addr) (c6 n6 : Nat) (Ad6 : Option Addr) (cd6 nd6 : Nat) (Ao6 : Option Addr) (co6 no6 : Nat) (Ai6 : Option Addr) (ci6 ni6 : Nat) (Ac6 : Option Addr) (cc6 nc6 : Nat), Hid (∀ W, Below k5 v9 W → StAt W { m with cb := [] } L6 (.slice A6 n6 c6) (.slice Ad6 nd6 cd6) (.slice Ao6 no6 co6) (.slice Ai6 ni6 ci6) (.slice Ac6 nc6 cc6)) ∧ Hid (BW k5 v9 wx) ∧ Hid (HO w wx [boxO k5 (stC { m with cb := [] } (.slice A6 n6 c6) (.slice Ad6 nd6 cd6) (.slice Ao6 no6 co6) (.slice Ai6 ni6 ci6) (.slice Ac6 nc6 cc6)), boxO (w.heap.size + 1) (stC p (.slice A2 M.length c2) (.slice Ad2 p.dm.length cd2) (.slice Ao2 p.op.length co2) (.slice Ai2 p.ip.length ci2) (.slice Ac2 p.cb.length cc2)), boxO w.heap.size (stC c (.slice A1 L.length c1) (.slice Ad1 c.dm.length cd1) (.slice Ao1 c.op.length co1) (.slice Ai1 c.ip.length ci1) (.slice Ac1 c.cb.length cc1))]))
      case first =>
        by_cases hz : B8 = 0
        · subst hz
          have e5 : s5 = { m with cb := [] } := by have h := HPM.out; rw [HB8.out] at h; simpa using h
          go_wp2_with fail
          go_meet
          case rel => exact ⟨L5, A5, c5, _, Ad5, cd5, _, Ao5, co5, _, Ai5, ci5, _, Ac5, cc5, _, Lib.hid (by rw [← e5]; exact HW5.out), B5, Lib.hid (by rw [← e5]; exact J.out)⟩
        · have hz2 : (B8 == 0) = false := by simpa using hz
          have e5 : { s5 with dm := p.dm } = { m with cb := [] } := by have h := HPM.out; rw [HB8.out] at h; simpa [hz] using h
          obtain ⟨q12_0, q12_1, q12_2, q12_3, q12_4, q12_5, q12_6, q12_7, q12_8, q12_9, q12_10, q12_f, q12_l⟩ := (show HO w _ ([] ++ boxO k5 [_, _, _, _, _, _, _, _, _, _, _] :: _) from J.out).c11
          obtain ⟨q13_0, q13_1, q13_2, q13_3, q13_4, q13_5, q13_6, q13_7, q13_8, q13_9, q13_10, q13_f, q13_l⟩ := (show HO w _ ([_] ++ boxO (w.heap.size + 1) [_, _, _, _, _, _, _, _, _, _, _] :: _) from J.out).c11
          replace J := Lib.hid ((show HO w v10 ([] ++ boxO k5 [_, _, _, _, _, _, _, _, _, _, _] :: _) from J.out).cell (i := 4) (by simp) (.slice Ad2 p.dm.length cd2))
          go_wp2_with fail
          go_meet
          case rel => exact ⟨L5, A5, c5, _, Ad2, cd2, _, Ao5, co5, _, Ai5, ci5, _, Ac5, cc5, _, Lib.hid (fun W hb => by rw [← e5]; exact ⟨(HW5.out W hb).bf, (HW5.out W hb).px, (HW5.out W hb).eq, (HPW.out W hb).dm, (HW5.out W hb).op, (HW5.out W hb).ip, (HW5.out W hb).cb⟩), Lib.hid (B5.out.cell (Nat.le_refl _)), Lib.hid (by rw [← e5]; exact J.out)⟩
      case rest =>
        clear J B5 HW5 HPW HC HP HT
        obtain ⟨L6, A6, c6, n6, Ad6, cd6, nd6, Ao6, co6, no6, Ai6, ci6, ni6, Ac6, cc6, nc6, HW5, B5, J⟩ := hcut
        have HC := Lib.hid (HC0.out.below J.out.below)
        have HP := Lib.hid (HP0.out.below J.out.below)
        have HT := Lib.hid (HT0.out.below J.out.below)
        generalize chkS m = kc at *
        obtain ⟨q14_0, q14_1, q14_2, q14_3, q14_4, q14_5, q14_6, q14_7, q14_8, q14_9, q14_10, q14_f, q14_l⟩ := (show HO w _ ([] ++ boxO k5 [_, _, _, _, _, _, _, _, _, _, _] :: _) from J.out).c11
        go_wp2_with fail
        refine (CK _ L6 _ _ _ _ _ (HW5.out _ B5.out.b)).out.mono ?_
        rintro e v15 ⟨rfl, hb⟩
        replace J := Lib.hid (J.out.step hb)
        replace HC := Lib.hid (HC.out.below hb)
        replace HP := Lib.hid (HP.out.below hb)
        replace HT := Lib.hid (HT.out.below hb)
        replace B5 := Lib.hid (B5.out.below hb)
        clear hb CK
        clear q14_0 q14_1 q14_2 q14_3 q14_4 q14_5 q14_6 q14_7 q14_8 q14_9 q14_10 q14_f q14_l
        obtain ⟨q16_0, q16_1, q16_2, q16_3, q16_4, q16_5, q16_6, q16_7, q16_8, q16_9, q16_10, q16_f, q16_l⟩ := (show HO w _ ([_, _] ++ boxO w.heap.size [_, _, _, _, _, _, _, _, _, _, _] :: _) from J.out).c11
        obtain ⟨q17_0, q17_1, q17_2, q17_3, q17_4, q17_5, q17_6, q17_7, q17_8, q17_9, q17_10, q17_f, q17_l⟩ := (show HO w _ ([_] ++ boxO (w.heap.size + 1) [_, _, _, _, _, _, _, _, _, _, _] :: _) from J.out).c11
        go_wp2_with fail
        by_cases hk : kc = 0
        · subst hk
          simp only [if_true] at CM
          refine (CM _ HC.out HP.out).out.mono ?_
          rintro e v18 ⟨L7, vb7, vd7, vo7, vi7, vc7, rfl, hm7, hb⟩
          obtain ⟨A7, c7, g1, -, -⟩ := hm7.bf.shape
          obtain ⟨Ad7, cd7, g2, -, -⟩ := hm7.dm.shape
          obtain ⟨Ao7, co7, g3, -, -⟩ := hm7.op.shape
          obtain ⟨Ai7, ci7, g4, -, -⟩ := hm7.ip.shape
          obtain ⟨Ac7, cc7, g5, -, -⟩ := hm7.cb.shape
          subst g1 g2 g3 g4 g5
          have K57 := Lib.hid (show k5 ≤ v18.heap.size from Nat.le_trans B5.out.le hb.size)
          have HW7 := Lib.hid (fun (W : World) (hb : Below v18.heap.size v18 W) => hm7.below hb)
          have B7 := Lib.hid (show BW v18.heap.size v18 _ from ⟨(Below.refl v18.heap.size v18).alloc (Nat.le_refl _) (.cells (stC m (.slice A7 L7.length c7) (.slice Ad7 m.dm.length cd7) (.slice Ao7 m.op.length co7) (.slice Ai7 m.ip.length ci7) (.slice Ac7 m.cb.length cc7)).toArray 28), by simp⟩)
          replace J := Lib.hid ((J.out.step hb).alloc (stC m (.slice A7 L7.length c7) (.slice Ad7 m.dm.length cd7) (.slice Ao7 m.op.length co7) (.slice Ai7 m.ip.length ci7) (.slice Ac7 m.cb.length cc7)) 28)
          replace HC := Lib.hid (HC.out.below hb)
          replace HP := Lib.hid (HP.out.below hb)
          replace HT := Lib.hid (HT.out.below hb)
          replace B5 := Lib.hid (B5.out.below hb)
          have hb9 := (Below.refl v18.heap.size v18).alloc (Nat.le_refl _) (.cells ((stC m (.slice A7 L7.length c7) (.slice Ad7 m.dm.length cd7) (.slice Ao7 m.op.length co7) (.slice Ai7 m.ip.length ci7) (.slice Ac7 m.cb.length cc7))).toArray 28)
          replace HC := Lib.hid (HC.out.below hb9)
          replace HP := Lib.hid (HP.out.below hb9)
          replace HT := Lib.hid (HT.out.below hb9)
          replace B5 := Lib.hid (B5.out.below hb9)
          clear hb hb9 hm7 CM
          clear q16_0 q16_1 q16_2 q16_3 q16_4 q16_5 q16_6 q16_7 q16_8 q16_9 q16_10 q16_f q16_l q17_0 q17_1 q17_2 q17_3 q17_4 q17_5 q17_6 q17_7 q17_8 q17_9 q17_10 q17_f q17_l
          go_upto_region 8 with fail
          generalize v18.alloc (.cells #[.int .i64 m.set, .slice A7 L7.length c7, .int .i64 m.sc, .int .i64 m.tr, .slice Ad7 m.dm.length cd7, .slice Ao7 m.op.length co7, .bool m.is, .slice Ai7 m.ip.length ci7, .int .i64 m.dx, .int .i64 m.dy, .slice Ac7 m.cb.length cc7] 28) = v7 at *
          generalize v18.heap.size = k7 at *
          have hB9 := HB9e.out
          obtain ⟨q20_0, q20_1, q20_2, q20_3, q20_4, q20_5, q20_6, q20_7, q20_8, q20_9, q20_10, q20_f, q20_l⟩ := (show HO w _ ([_, _, _] ++ boxO w.heap.size [_, _, _, _, _, _, _, _, _, _, _] :: _) from J.out).c11
          obtain ⟨q21_0, q21_1, q21_2, q21_3, q21_4, q21_5, q21_6, q21_7, q21_8, q21_9, q21_10, q21_f, q21_l⟩ := (show HO w _ ([_, _] ++ boxO (w.heap.size + 1) [_, _, _, _, _, _, _, _, _, _, _] :: _) from J.out).c11
          go_upto_if 57 with (fail)
          go_cut [9] from 58 (fun s9 wx => s9 = .int .i64 (m.cb.length : Int) ∧ wx = v7)
          case first =>
            by_cases hz : B9 = 0
            · subst hz
              have e9 : m.cb = c.cb := by rw [HMC.out, HB9.out]; simp
              go_wp2_with fail
              go_meet
              case rel => exact ⟨by rw [e9], rfl⟩
            · have hz2 : (B9 == 0) = false := by simpa using hz
              have e9 : m.cb.length = c.cb.length + p.cb.length := by rw [HMC.out, HB9.out]; simp [hz]
              have kw : wrap64 ((c.cb.length : Int) + (p.cb.length : Int)) = ((c.cb.length + p.cb.length : Nat) : Int) := (IntWalk.wrap64_in _ (by omega)).trans (by omega)
              generalize hcp : c.cb.length + p.cb.length = ncp at *
              go_wp2_with fail
              go_meet
              case rel => exact ⟨(by rw [e9]; try (congr 1; try omega)), rfl⟩
          case rest =>
            obtain ⟨rfl, rfl⟩ := hcut
            clear q20_0 q20_1 q20_2 q20_3 q20_4 q20_5 q20_6 q20_7 q20_8 q20_9 q20_10 q20_f q20_l q21_0 q21_1 q21_2 q21_3 q21_4 q21_5 q21_6 q21_7 q21_8 q21_9 q21_10 q21_f q21_l
            clear hB9
            obtain ⟨q22_0, q22_1, q22_2, q22_3, q22_4, q22_5, q22_6, q22_7, q22_8, q22_9, q22_10, q22_f, q22_l⟩ := (show HO w _ ([] ++ boxO k7 [_, _, _, _, _, _, _, _, _, _, _] :: _) from J.out).c11
            go_wp2_with fail
            clear q22_0 q22_1 q22_2 q22_3 q22_4 q22_5 q22_6 q22_7 q22_8 q22_9 q22_10 q22_f q22_l
            obtain ⟨nm, hnm⟩ : ∃ nm, m.cb.length = nm := ⟨_, rfl⟩
            have HNM := Lib.hid hnm
            have hnb := mcb_len HMC.out
            rw [hnm] at J hnb ⊢
            clear hnm
            go_loopw [10] (fun s10 wr => ∃ (i : Nat), i ≤ nm ∧ s10 = .int .i64 (i : Int) ∧ Hid (BW k7 v18 wr) ∧ Hid (BW k5 v9 wr) ∧ Hid (HO w wr [boxO k7 (stC m (.slice A7 L7.length c7) (.slice Ad7 m.dm.length cd7) (.slice Ao7 m.op.length co7) (.slice Ai7 m.ip.length ci7) (.slice Ac7 nm cc7)), boxO k5 (stC { m with cb := [] } (.slice A6 n6 c6) (.slice Ad6 nd6 cd6) (.slice Ao6 no6 co6) (.slice Ai6 ni6 ci6) (.slice Ac6 nc6 cc6)), boxO (w.heap.size + 1) (stC p (.slice A2 M.length c2) (.slice Ad2 p.dm.length cd2) (.slice Ao2 p.op.length co2) (.slice Ai2 p.ip.length ci2) (.slice Ac2 p.cb.length cc2)), boxO w.heap.size (stC c (.slice A1 L.length c1) (.slice Ad1 c.dm.length cd1) (.slice Ao1 c.op.length co1) (.slice Ai1 c.ip.length ci1) (.slice Ac1 c.cb.length cc1))])) (fun s10 _ => leftN nm s10)
            case atStart => exact ⟨0, Nat.zero_le _, rfl, B7, B5, J⟩
            case round =>
              clear J HC HP HT B5 B7
              obtain ⟨i, hin, rfl, B7, B5, J⟩ := hrel
              have HC := Lib.hid (HC0.out.below J.out.below)
              have HP := Lib.hid (HP0.out.below J.out.below)
              have HX := Lib.hid (HW7.out _ B7.out.b)
              by_cases hlt : i < nm
              · have q0 : (0 : Int) ≤ i := by omega
                have q1 : (i : Int) < nm := by omega
                have hxc := HX.out.cb
                rw [HNM.out] at hxc
                obtain ⟨bx, ox, ex, hbx, hcx⟩ := u_cells hxc (by omega) (Below.refl _ _)
                subst ex
                obtain ⟨x, hx⟩ : ∃ x, m.cb[i]? = some x := ⟨_, List.getElem?_eq_getElem (by rw [HNM.out]; exact hlt)⟩
                have hx1 := hcx i x hx
                clear hcx hxc
                obtain ⟨q23_0, q23_1, q23_2, q23_3, q23_4, q23_5, q23_6, q23_7, q23_8, q23_9, q23_10, q23_f, q23_l⟩ := (show HO w _ ([] ++ boxO k7 [_, _, _, _, _, _, _, _, _, _, _] :: _) from J.out).c11
                obtain ⟨q24_0, q24_1, q24_2, q24_3, q24_4, q24_5, q24_6, q24_7, q24_8, q24_9, q24_10, q24_f, q24_l⟩ := (show HO w _ ([_, _, _] ++ boxO w.heap.size [_, _, _, _, _, _, _, _, _, _, _] :: _) from J.out).c11
                obtain ⟨q25_0, q25_1, q25_2, q25_3, q25_4, q25_5, q25_6, q25_7, q25_8, q25_9, q25_10, q25_f, q25_l⟩ := (show HO w _ ([_, _] ++ boxO (w.heap.size + 1) [_, _, _, _, _, _, _, _, _, _, _] :: _) from J.out).c11
                by_cases hic : i < c.cb.length
                · have r0 : (i : Int) < c.cb.length := by omega
                  have r1 : ¬ ((c.cb.length : Int) ≤ i) := by omega
                  have r2 : decide ((c.cb.length : Int) ≤ (i : Int)) = false := by simpa using r1
                  have r3 : decide ((i : Int) < (c.cb.length : Int)) = true := by simpa using r0
                  have hcc := HC.out.cb
                  obtain ⟨bc, oc, ec, hbc, hcc2⟩ := u_cells hcc (by omega) (Below.refl _ _)
                  subst ec
                  have hc1 := hcc2 i x ((mcb_left HMC.out hic).symm.trans hx)
                  clear hcc2 hcc hx
                  go_upto_region 20 with fail
                  go_quiet (fail)
                  go_wp2_with fail
                  go_roundw
                  case rel => exact ⟨i + 1, by omega, by go_num, Lib.hid (B7.out.below (below_draws (Below.refl _ _) _)), Lib.hid (B5.out.below (below_draws (Below.refl _ _) _)), Lib.hid (J.out.drews _)⟩
                  case measure =>
                    show nm - ((i : Int) + 1).toNat < nm - (i : Int).toNat
                    omega
                · have r0 : ¬ ((i : Int) < c.cb.length) := by omega
                  have r1 : (c.cb.length : Int) ≤ i := by omega
                  have r2 : decide ((c.cb.length : Int) ≤ (i : Int)) = true := by simpa using r1
                  have r3 : decide ((i : Int) < (c.cb.length : Int)) = false := by simpa using r0
                  have hxp := (mcb_right HMC.out (by omega) (by rw [HNM.out]; exact hlt)).symm.trans hx
                  have hpl := (List.getElem?_eq_some_iff.1 hxp).1
                  obtain ⟨bp, op, ep, hbp, hpp2⟩ := u_cells HP.out.cb (by omega) (Below.refl _ _)
                  subst ep
                  have hp1 := hpp2 (i - c.cb.length) x hxp
                  have kw : wrap64 ((i : Int) - (c.cb.length : Int)) = ((i - c.cb.length : Nat) : Int) := (IntWalk.wrap64_in _ (by omega)).trans (by omega)
                  have kw2 : IntKind.i64.wrap ((i : Int) - (c.cb.length : Int)) = ((i - c.cb.length : Nat) : Int) := (IntWalk.i64_in _ (by omega)).trans (by omega)
                  generalize hd : i - c.cb.length = d at *
                  have q2 : (0 : Int) ≤ d := by omega
                  have q3 : (d : Int) < p.cb.length := by omega
                  clear hpp2 hxp hx hd hpl
                  go_upto_region 20 with fail
                  go_quiet (fail)
                  go_wp2_with fail
                  go_roundw
                  case rel => exact ⟨i + 1, by omega, by go_num, Lib.hid (B7.out.below (below_draws (Below.refl _ _) _)), Lib.hid (B5.out.below (below_draws (Below.refl _ _) _)), Lib.hid (J.out.drews _)⟩
                  case measure =>
                    show nm - ((i : Int) + 1).toNat < nm - (i : Int).toNat
                    omega
              · obtain rfl : i = nm := by omega
                obtain ⟨q26_0, q26_1, q26_2, q26_3, q26_4, q26_5, q26_6, q26_7, q26_8, q26_9, q26_10, q26_f, q26_l⟩ := (show HO w _ ([] ++ boxO k7 [_, _, _, _, _, _, _, _, _, _, _] :: _) from J.out).c11
                go_upto_region 23 with fail
                clear q26_0 q26_1 q26_2 q26_3 q26_4 q26_5 q26_6 q26_7 q26_8 q26_9 q26_10 q26_f q26_l
                replace J := Lib.hid ((show HO w wr ([] ++ boxO k7 [_, _, _, _, _, _, _, _, _, _, _] :: _) from J.out).cell (i := 10) (by simp) (.slice none 0 0))
                have HWT := HW5.out _ (B5.out.cell (i := 10) (u := .slice none 0 0) (k := k7) K57.out).b
                have HMX := HW7.out _ (B7.out.cell (i := 10) (u := .slice none 0 0) (k := k7) (Nat.le_refl _)).b
                have CS := Lib.hid (rsame_any (s := { m with cb := [] }) ⟨HMX.bf, HMX.px, HMX.eq, HMX.dm, HMX.op, HMX.ip, sn_nil _ _⟩ HWT)
                clear HWT HMX
                generalize wr.setCell ⟨k7, 10, none⟩ (.slice none 0 0) = v8 at *
                have HT := Lib.hid (HT0.out.below J.out.below)
                clear B5 B7 HC HP HX
                obtain ⟨q27_0, q27_1, q27_2, q27_3, q27_4, q27_5, q27_6, q27_7, q27_8, q27_9, q27_10, q27_f, q27_l⟩ := (show HO w _ ([] ++ boxO k7 [_, _, _, _, _, _, _, _, _, _, _] :: _) from J.out).c11
                obtain ⟨q28_0, q28_1, q28_2, q28_3, q28_4, q28_5, q28_6, q28_7, q28_8, q28_9, q28_10, q28_f, q28_l⟩ := (show HO w _ ([_] ++ boxO k5 [_, _, _, _, _, _, _, _, _, _, _] :: _) from J.out).c11
                go_wp2_with fail
                refine (CS).out.mono ?_
                rintro e v29 ⟨rfl, hb⟩
                replace J := Lib.hid (J.out.step hb)
                replace HT := Lib.hid (HT.out.below hb)
                clear hb CS
                clear q27_0 q27_1 q27_2 q27_3 q27_4 q27_5 q27_6 q27_7 q27_8 q27_9 q27_10 q27_f q27_l q28_0 q28_1 q28_2 q28_3 q28_4 q28_5 q28_6 q28_7 q28_8 q28_9 q28_10 q28_f q28_l
                go_wp2_with fail
                refine (CE _ HT.out).out.mono ?_
                rintro e v30 ⟨rfl, hb⟩
                replace J := Lib.hid (J.out.step hb)
                replace HT := Lib.hid (HT.out.below hb)
                clear hb
                go_wp2_with fail
                go_ret
                exact ⟨rfl, J.out.below⟩
        · simp only [if_neg hk] at CM
          have hkz : (kc == 0) = false := by simpa using hk
          refine (CM _ HC.out HP.out).out.mono ?_
          rintro e v18 ⟨L7, vb7, vd7, vo7, vi7, vc7, rfl, hm7, hb⟩
          obtain ⟨A7, c7, g1, -, -⟩ := hm7.bf.shape
          obtain ⟨Ad7, cd7, g2, -, -⟩ := hm7.dm.shape
          obtain ⟨Ao7, co7, g3, -, -⟩ := hm7.op.shape
          obtain ⟨Ai7, ci7, g4, -, -⟩ := hm7.ip.shape
          obtain ⟨Ac7, cc7, g5, -, -⟩ := hm7.cb.shape
          subst g1 g2 g3 g4 g5
          have HX := Lib.hid hm7
          replace J := Lib.hid ((J.out.step hb).alloc (stC zeroS (.slice A7 L7.length c7) (.slice Ad7 zeroS.dm.length cd7) (.slice Ao7 zeroS.op.length co7) (.slice Ai7 zeroS.ip.length ci7) (.slice Ac7 zeroS.cb.length cc7)) 28)
          replace HC := Lib.hid (HC.out.below hb)
          replace HP := Lib.hid (HP.out.below hb)
          replace HT := Lib.hid (HT.out.below hb)
          replace B5 := Lib.hid (B5.out.below hb)
          have hb9 := (Below.refl v18.heap.size v18).alloc (Nat.le_refl _) (.cells ((stC zeroS (.slice A7 L7.length c7) (.slice Ad7 zeroS.dm.length cd7) (.slice Ao7 zeroS.op.length co7) (.slice Ai7 zeroS.ip.length ci7) (.slice Ac7 zeroS.cb.length cc7))).toArray 28)
          replace HC := Lib.hid (HC.out.below hb9)
          replace HP := Lib.hid (HP.out.below hb9)
          replace HT := Lib.hid (HT.out.below hb9)
          replace B5 := Lib.hid (B5.out.below hb9)
          replace HX := Lib.hid (HX.out.below hb9)
          clear hb hb9 hm7 CM
          clear q16_0 q16_1 q16_2 q16_3 q16_4 q16_5 q16_6 q16_7 q16_8 q16_9 q16_10 q16_f q16_l q17_0 q17_1 q17_2 q17_3 q17_4 q17_5 q17_6 q17_7 q17_8 q17_9 q17_10 q17_f q17_l
          go_upto_region 8 with fail
          generalize v18.alloc (.cells #[.int .i64 zeroS.set, .slice A7 L7.length c7, .int .i64 zeroS.sc, .int .i64 zeroS.tr, .slice Ad7 zeroS.dm.length cd7, .slice Ao7 zeroS.op.length co7, .bool zeroS.is, .slice Ai7 zeroS.ip.length ci7, .int .i64 zeroS.dx, .int .i64 zeroS.dy, .slice Ac7 zeroS.cb.length cc7] 28) = v7 at *
          generalize v18.heap.size = k7 at *
          have CS := Lib.hid (rsame_any HX.out (st_init v7 zeroS ⟨rfl, rfl, rfl, rfl, rfl⟩))
          obtain ⟨q20_0, q20_1, q20_2, q20_3, q20_4, q20_5, q20_6, q20_7, q20_8, q20_9, q20_10, q20_f, q20_l⟩ := (show HO w _ ([] ++ boxO k7 [_, _, _, _, _, _, _, _, _, _, _] :: _) from J.out).c11
          go_wp2_with fail
          refine (CS).out.mono ?_
          rintro e v21 ⟨rfl, hb⟩
          replace J := Lib.hid (J.out.step hb)
          replace HC := Lib.hid (HC.out.below hb)
          replace HP := Lib.hid (HP.out.below hb)
          replace HT := Lib.hid (HT.out.below hb)
          replace B5 := Lib.hid (B5.out.below hb)
          replace HX := Lib.hid (HX.out.below hb)
          clear hb CS
          clear q20_0 q20_1 q20_2 q20_3 q20_4 q20_5 q20_6 q20_7 q20_8 q20_9 q20_10 q20_f q20_l
          go_wp2_with fail
          refine (CE _ HT.out).out.mono ?_
          rintro e v22 ⟨rfl, hb⟩
          replace J := Lib.hid (J.out.step hb)
          replace HC := Lib.hid (HC.out.below hb)
          replace HP := Lib.hid (HP.out.below hb)
          replace HT := Lib.hid (HT.out.below hb)
          replace B5 := Lib.hid (B5.out.below hb)
          replace HX := Lib.hid (HX.out.below hb)
          clear hb
          go_wp2_with fail
          go_ret
          exact ⟨rfl, J.out.below⟩

end Go.Proofs.YthedglfocjljjaaGreatDoor
