/-
  The law StateChecks: its walk.
-/
import Derived.Test.YthedglfocjljjaaGreatDoorExm
import Derived.Test.YthedglfocjljjaaGreatDoorSli
import Derived.Test.YthedglfocjljjaaGreatDoorSrh
namespace Go.Proofs.YthedglfocjljjaaGreatDoor
open Go.RowKit

theorem HO.cells11 {w W : World} {l1 l2 : List Ob} {k : Nat} {x0 x1 x2 x3 x4 x5 x6 x7 x8 x9 x10 : Value} (h : HO w W (l1 ++ boxO k [x0, x1, x2, x3, x4, x5, x6, x7, x8, x9, x10] :: l2)) :
    W.cell? ⟨k, 0, none⟩ = some x0 ∧ W.cell? ⟨k, 1, none⟩ = some x1 ∧ W.cell? ⟨k, 2, none⟩ = some x2 ∧ W.cell? ⟨k, 3, none⟩ = some x3 ∧ W.cell? ⟨k, 4, none⟩ = some x4 ∧ W.cell? ⟨k, 5, none⟩ = some x5 ∧ W.cell? ⟨k, 6, none⟩ = some x6 ∧ W.cell? ⟨k, 7, none⟩ = some x7 ∧ W.cell? ⟨k, 8, none⟩ = some x8 ∧ W.cell? ⟨k, 9, none⟩ = some x9 ∧ W.cell? ⟨k, 10, none⟩ = some x10 :=
  ⟨h.c 0 rfl, h.c 1 rfl, h.c 2 rfl, h.c 3 rfl, h.c 4 rfl, h.c 5 rfl, h.c 6 rfl, h.c 7 rfl, h.c 8 rfl, h.c 9 rfl, h.c 10 rfl⟩

set_option maxRecDepth 100000 in
set_option maxHeartbeats 16000000 in
theorem checks_walk {w : World} (T : Trf.Tab w) {s : St} {L : List Bv} {vb vd vo vi vc : Value} (h : StAt w s L vb vd vo vi vc) :
    Calls Tryz.prog 3 #[stV s vb vd vo vi vc] w fun e w' => e = .returned (.bool true) ∧ Below w.heap.size w w' := by
  obtain ⟨A, c, rfl, h1, h2⟩ := h.bf.shape
  obtain ⟨Ad, cd, rfl, hd1, hd2⟩ := h.dm.shape
  obtain ⟨Ao, co, rfl, ho1, ho2⟩ := h.op.shape
  obtain ⟨Ai, ci, rfl, hi1, hi2⟩ := h.ip.shape
  obtain ⟨Ac, cc, rfl, hc1, hc2⟩ := h.cb.shape
  have HS := Lib.hid h
  have HT := Lib.hid T
  have CL := fun (W : World) (h : StAt W s L (.slice A L.length c) (.slice Ad s.dm.length cd) (.slice Ao s.op.length co) (.slice Ai s.ip.length ci) (.slice Ac s.cb.length cc)) => Lib.hid (light_any h)
  have CE := fun (W : World) (T : Trf.Tab W) => Lib.hid (ex_any T)
  have J := Lib.hid ((HO.nil w).alloc (stC s (.slice A L.length c) (.slice Ad s.dm.length cd) (.slice Ao s.op.length co) (.slice Ai s.ip.length ci) (.slice Ac s.cb.length cc)) 28)
  have hb := J.out.below
  replace HS := Lib.hid (HS.out.below hb)
  replace HT := Lib.hid (HT.out.below hb)
  clear h T hb
  cases hl : lightB s with
  | false =>
    rw [hl] at CL
    clear hl
    go_enter Tryz.func3, Tryz.ntmps3
    go_wp2_with fail
    refine (CL _ HS.out).out.mono ?_
    rintro e w1 ⟨rfl, hb⟩
    replace J := Lib.hid (J.out.step hb)
    replace HT := Lib.hid (HT.out.below hb)
    clear hb CL HS
    go_wp2_with fail
    refine (CE _ HT.out).out.mono ?_
    rintro e w2 ⟨rfl, hb⟩
    replace J := Lib.hid (J.out.step hb)
    clear hb CE HT
    go_wp2_with fail
    go_ret
    exact ⟨rfl, J.out.below⟩
  | true =>
    have hf := light_few hl
    rw [hl] at CL
    have CK := fun (W : World) (h : StAt W s L (.slice A L.length c) (.slice Ad s.dm.length cd) (.slice Ao s.op.length co) (.slice Ai s.ip.length ci) (.slice Ac s.cb.length cc)) => Lib.hid (chk_any rg h hf)
    have RK := fun (W : World) (h : StAt W s L (.slice A L.length c) (.slice Ad s.dm.length cd) (.slice Ao s.op.length co) (.slice Ai s.ip.length ci) (.slice Ac s.cb.length cc)) => Lib.hid (rchk_any h hf)
    have CI := fun (W : World) => Lib.hid (init_any W)
    have RI := fun (W : World) => Lib.hid (rinit_any W)
    have SI := fun (W : World) => Lib.hid (rsame_any (st_init W initS ⟨rfl, rfl, rfl, rfl, rfl⟩) (st_init W initS ⟨rfl, rfl, rfl, rfl, rfl⟩))
    have CC := fun (W : World) (h : StAt W s L (.slice A L.length c) (.slice Ad s.dm.length cd) (.slice Ao s.op.length co) (.slice Ai s.ip.length ci) (.slice Ac s.cb.length cc)) => Lib.hid (clone_any h (by rw [← h.len]; exact hf.bf) (fun q hq => hf.px _ (by rw [← h.eq]; exact List.mem_map_of_mem hq)) (Nat.le_trans hf.dm (by decide)) (Nat.le_trans hf.op (by decide)) (Nat.le_trans hf.ip (by decide)) hf.cb)
    have SC := fun (W : World) (L1 : List Bv) (vb vd vo vi vc : Value) (g : StAt W s L1 vb vd vo vi vc) (h : StAt W s L (.slice A L.length c) (.slice Ad s.dm.length cd) (.slice Ao s.op.length co) (.slice Ai s.ip.length ci) (.slice Ac s.cb.length cc)) => Lib.hid (rsame_any g h)
    unfold ClO at CC
    generalize chkS s = kc at *
    clear hl hf
    go_enter Tryz.func3, Tryz.ntmps3
    go_wp2_with fail
    refine (CL _ HS.out).out.mono ?_
    rintro e w1 ⟨rfl, hb⟩
    replace J := Lib.hid (J.out.step hb)
    replace HS := Lib.hid (HS.out.below hb)
    replace HT := Lib.hid (HT.out.below hb)
    clear hb CL
    go_upto_region 3 with fail
    replace J := Lib.hid J.out.drew
    replace HS := Lib.hid (HS.out.below (Below.refl w1.heap.size w1).drew)
    replace HT := Lib.hid (HT.out.below (Below.refl w1.heap.size w1).drew)
    have sk := (show HO w _ ([] ++ boxO w.heap.size [_, _, _, _, _, _, _, _, _, _, _] :: []) from J.out).cells11
    go_region_held3 (fun W => W.cell? ⟨w.heap.size, 0, none⟩ = some (.int .i64 s.set) ∧ W.cell? ⟨w.heap.size, 1, none⟩ = some (.slice A L.length c) ∧ W.cell? ⟨w.heap.size, 2, none⟩ = some (.int .i64 s.sc) ∧ W.cell? ⟨w.heap.size, 3, none⟩ = some (.int .i64 s.tr) ∧ W.cell? ⟨w.heap.size, 4, none⟩ = some (.slice Ad s.dm.length cd) ∧ W.cell? ⟨w.heap.size, 5, none⟩ = some (.slice Ao s.op.length co) ∧ W.cell? ⟨w.heap.size, 6, none⟩ = some (.bool s.is) ∧ W.cell? ⟨w.heap.size, 7, none⟩ = some (.slice Ai s.ip.length ci) ∧ W.cell? ⟨w.heap.size, 8, none⟩ = some (.int .i64 s.dx) ∧ W.cell? ⟨w.heap.size, 9, none⟩ = some (.int .i64 s.dy) ∧ W.cell? ⟨w.heap.size, 10, none⟩ = some (.slice Ac s.cb.length cc))
      (first
        | exact sk
        | go_keep)
      (first
        | (go_at_call 12; (with_reducible refine (CK _ HS.out).out.mono ?_); rintro e w9 ⟨rfl, hb⟩; replace J := Lib.hid (J.out.step hb); replace HS := Lib.hid (HS.out.below hb); replace HT := Lib.hid (HT.out.below hb); clear hb sk; have sk := (show HO w _ ([] ++ boxO w.heap.size [_, _, _, _, _, _, _, _, _, _, _] :: []) from J.out).cells11)
        | (go_at_call 13; (with_reducible refine (RK _ HS.out).out.mono ?_); rintro e w9 ⟨rfl, hb⟩; replace J := Lib.hid (J.out.step hb); replace HS := Lib.hid (HS.out.below hb); replace HT := Lib.hid (HT.out.below hb); clear hb sk; have sk := (show HO w _ ([] ++ boxO w.heap.size [_, _, _, _, _, _, _, _, _, _, _] :: []) from J.out).cells11)
        | (go_at_call 15; (with_reducible refine (CI _).out.mono ?_); rintro e w9 ⟨rfl, hb⟩; replace J := Lib.hid (J.out.step hb); replace HS := Lib.hid (HS.out.below hb); replace HT := Lib.hid (HT.out.below hb); clear hb sk; have sk := (show HO w _ ([] ++ boxO w.heap.size [_, _, _, _, _, _, _, _, _, _, _] :: []) from J.out).cells11)
        | (go_at_call 16; (with_reducible refine (RI _).out.mono ?_); rintro e w9 ⟨rfl, hb⟩; replace J := Lib.hid (J.out.step hb); replace HS := Lib.hid (HS.out.below hb); replace HT := Lib.hid (HT.out.below hb); clear hb sk; have sk := (show HO w _ ([] ++ boxO w.heap.size [_, _, _, _, _, _, _, _, _, _, _] :: []) from J.out).cells11)
        | (go_at_call 14; (with_reducible refine (SI _).out.mono ?_); rintro e w9 ⟨rfl, hb⟩; replace J := Lib.hid (J.out.step hb); replace HS := Lib.hid (HS.out.below hb); replace HT := Lib.hid (HT.out.below hb); clear hb sk; have sk := (show HO w _ ([] ++ boxO w.heap.size [_, _, _, _, _, _, _, _, _, _, _] :: []) from J.out).cells11)
        | (go_at_call 17; (with_reducible refine (CC _ HS.out).out.mono ?_); rintro e w9 ⟨L1, vb1, vd1, vo1, vi1, vc1, rfl, hL, hho⟩; have HC := Lib.hid (clo_st hL HS.out.eq hho); have hb := hho.below; obtain ⟨A1, c1, g1, -, -⟩ := HC.out.bf.shape; obtain ⟨Ad1, cd1, g2, -, -⟩ := HC.out.dm.shape; obtain ⟨Ao1, co1, g3, -, -⟩ := HC.out.op.shape; obtain ⟨Ai1, ci1, g4, -, -⟩ := HC.out.ip.shape; obtain ⟨Ac1, cc1, g5, -, -⟩ := HC.out.cb.shape; subst g1 g2 g3 g4 g5; clear hho hL; replace J := Lib.hid (J.out.step hb); replace HS := Lib.hid (HS.out.below hb); replace HT := Lib.hid (HT.out.below hb); clear hb sk; have sk := (show HO w _ ([] ++ boxO w.heap.size [_, _, _, _, _, _, _, _, _, _, _] :: []) from J.out).cells11)
        | (go_at_call 14; (with_reducible refine (SC _ L1 _ _ _ _ _ HC.out HS.out).out.mono ?_); rintro e w9 ⟨rfl, hb⟩; replace J := Lib.hid (J.out.step hb); replace HS := Lib.hid (HS.out.below hb); replace HT := Lib.hid (HT.out.below hb); replace HC := Lib.hid (HC.out.below hb); clear hb sk; have sk := (show HO w _ ([] ++ boxO w.heap.size [_, _, _, _, _, _, _, _, _, _, _] :: []) from J.out).cells11)
        | (go_at_call 11; (with_reducible refine (CE _ HT.out).out.mono ?_); rintro e w9 ⟨rfl, hb⟩; replace J := Lib.hid (J.out.step hb); replace HS := Lib.hid (HS.out.below hb); replace HT := Lib.hid (HT.out.below hb); clear hb sk; have sk := (show HO w _ ([] ++ boxO w.heap.size [_, _, _, _, _, _, _, _, _, _, _] :: []) from J.out).cells11)
        | fail)
    go_wp2_with fail
    go_ret
    exact ⟨rfl, J.out.below⟩

end Go.Proofs.YthedglfocjljjaaGreatDoor
