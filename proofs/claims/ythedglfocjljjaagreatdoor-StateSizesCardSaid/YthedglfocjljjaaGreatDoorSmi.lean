/-
  Package state: Merge.
-/
import Derived.Test.YthedglfocjljjaaGreatDoorSmh
import Derived.Test.YthedglfocjljjaaGreatDoorSin
namespace Go.Proofs.YthedglfocjljjaaGreatDoor
open Go.RowKit

theorem HO.join {w W W' : World} {l m : List Ob} (h : HO w W l) (g : HO W W' m) : HO w W' (m ++ l) := by
  have h2 := h.step g.below
  refine ⟨h2.below, fun o ho => ?_, fun o ho => ?_, fun o ho k hk => ?_, List.pairwise_append.2 ⟨g.pw, h2.pw, fun a ha b hb k hk hk2 => ?_⟩⟩
  · rcases List.mem_append.1 ho with ho | ho
    · exact g.says o ho
    · exact h2.says o ho
  · rcases List.mem_append.1 ho with ho | ho
    · exact g.keeps o ho
    · exact h2.keeps o ho
  · rcases List.mem_append.1 ho with ho | ho
    · have := g.lt o ho k hk
      have := h.below.size
      omega
    · exact h2.lt o ho k hk
  · have := g.lt a ha k hk
    have := h.lt b hb k hk2
    omega
abbrev rowsO (base : Nat) (s : St) (L1 : List Bv) (vb vd vo vi vc : Value) : List Ob := [rowO base 50 1 vc s.cb.length (uL s.cb), rowO base 53 4 vi s.ip.length (rflat s.ip), rowO base 53 4 vo s.op.length (rflat s.op), rowO base 53 4 vd s.dm.length (rflat s.dm), rowO base 42 3 vb L1.length (bfL L1)] ++ pxO base L1
theorem rowsO_st {w W : World} {base : Nat} {s : St} {L1 : List Bv} {vb vd vo vi vc : Value} (he : L1.map Prod.fst = s.bf) (h : HO w W (rowsO base s L1 vb vd vo vi vc)) : StAt W s L1 vb vd vo vi vc where
  bf := sn_owned (show HO w W ([_, _, _, _] ++ rowO base 42 3 vb L1.length (bfL L1) :: _) from h).at (bfL_len L1)
  px := px_says h
  eq := he
  dm := sn_owned (show HO w W ([_, _, _] ++ rowO base 53 4 vd s.dm.length (rflat s.dm) :: _) from h).at (rflat_length _)
  op := sn_owned (show HO w W ([_, _] ++ rowO base 53 4 vo s.op.length (rflat s.op) :: _) from h).at (rflat_length _)
  ip := sn_owned (show HO w W ([_] ++ rowO base 53 4 vi s.ip.length (rflat s.ip) :: _) from h).at (rflat_length _)
  cb := sn_owned (show HO w W ([] ++ rowO base 50 1 vc s.cb.length (uL s.cb) :: _) from h).at (by simp)
def MrO (w : World) (c p : St) (e : Ending) (w' : World) : Prop :=
  ∃ (L1 : List Bv) (vb vd vo vi vc : Value), e = .returned (.tuple #[stV (mrgR c p).1 vb vd vo vi vc, .int .i64 (mrgR c p).2]) ∧ StAt w' (mrgR c p).1 L1 vb vd vo vi vc ∧ Below w.heap.size w w'

set_option maxRecDepth 100000 in
set_option maxHeartbeats 16000000 in
theorem merge_any (G : RG) {w : World} {c p : St} {L M : List Bv} {vb vd vo vi vc ub ud uo ui uc : Value} (h : StAt w c L vb vd vo vi vc) (g : StAt w p M ub ud uo ui uc) (hcb : c.cb.length ≤ 2000) (hpb : p.cb.length ≤ 2000) (hf : Few (mrgS c p)) :
    Calls Tryz.prog 18 #[stV c vb vd vo vi vc, stV p ub ud uo ui uc] w (MrO w c p) := by
  have CM := fun (W : World) (hb : Below w.heap.size w W) => Lib.hid (merged_any (h.below hb) (g.below hb) hcb hpb)
  obtain ⟨A1, c1, rfl, h11, h21⟩ := h.bf.shape
  obtain ⟨Ad1, cd1, rfl, hd11, hd21⟩ := h.dm.shape
  obtain ⟨Ao1, co1, rfl, ho11, ho21⟩ := h.op.shape
  obtain ⟨Ai1, ci1, rfl, hi11, hi21⟩ := h.ip.shape
  obtain ⟨Ac1, cc1, rfl, hc11, hc21⟩ := h.cb.shape
  obtain ⟨A2, c2, rfl, h12, h22⟩ := g.bf.shape
  obtain ⟨Ad2, cd2, rfl, hd12, hd22⟩ := g.dm.shape
  obtain ⟨Ao2, co2, rfl, ho12, ho22⟩ := g.op.shape
  obtain ⟨Ai2, ci2, rfl, hi12, hi22⟩ := g.ip.shape
  obtain ⟨Ac2, cc2, rfl, hc12, hc22⟩ := g.cb.shape
  have J := Lib.hid (show HO w (((w.alloc (.cells (stC c (.slice A1 L.length c1) (.slice Ad1 c.dm.length cd1) (.slice Ao1 c.op.length co1) (.slice Ai1 c.ip.length ci1) (.slice Ac1 c.cb.length cc1)).toArray 28)).alloc (.cells (stC p (.slice A2 M.length c2) (.slice Ad2 p.dm.length cd2) (.slice Ao2 p.op.length co2) (.slice Ai2 p.ip.length ci2) (.slice Ac2 p.cb.length cc2)).toArray 28)).alloc (.cells [.int .i64 0, .slice none 0 0, .int .i64 0, .int .i64 0, .slice none 0 0, .slice none 0 0, .bool false, .slice none 0 0, .int .i64 0, .int .i64 0, .slice none 0 0].toArray 28)) [boxO (w.heap.size + 2) [.int .i64 0, .slice none 0 0, .int .i64 0, .int .i64 0, .slice none 0 0, .slice none 0 0, .bool false, .slice none 0 0, .int .i64 0, .int .i64 0, .slice none 0 0], boxO (w.heap.size + 1) (stC p (.slice A2 M.length c2) (.slice Ad2 p.dm.length cd2) (.slice Ao2 p.op.length co2) (.slice Ai2 p.ip.length ci2) (.slice Ac2 p.cb.length cc2)), boxO w.heap.size (stC c (.slice A1 L.length c1) (.slice Ad1 c.dm.length cd1) (.slice Ao1 c.op.length co1) (.slice Ai1 c.ip.length ci1) (.slice Ac1 c.cb.length cc1))] from by
    have h := (((HO.nil w).alloc (stC c (.slice A1 L.length c1) (.slice Ad1 c.dm.length cd1) (.slice Ao1 c.op.length co1) (.slice Ai1 c.ip.length ci1) (.slice Ac1 c.cb.length cc1)) 28).alloc (stC p (.slice A2 M.length c2) (.slice Ad2 p.dm.length cd2) (.slice Ao2 p.op.length co2) (.slice Ai2 p.ip.length ci2) (.slice Ac2 p.cb.length cc2)) 28).alloc [.int .i64 0, .slice none 0 0, .int .i64 0, .int .i64 0, .slice none 0 0, .slice none 0 0, .bool false, .slice none 0 0, .int .i64 0, .int .i64 0, .slice none 0 0] 28
    simp only [World.size_alloc] at h
    exact h)
  unfold MrO mrgR
  unfold MgO at CM
  generalize mrgS c p = m at *
  clear h g
  obtain ⟨kc, hkc⟩ : ∃ kc, chkS m = kc := ⟨_, rfl⟩
  rw [hkc]
  have HKC := Lib.hid hkc
  have HFW := Lib.hid hf
  clear hkc hf
  go_enter Tryz.func18, Tryz.ntmps18
  go_wp2_with fail
  refine (CM _ J.out.below).out.mono ?_
  rintro e w3 ⟨L3, vb3, vd3, vo3, vi3, vc3, rfl, hm, hb⟩
  have HM := Lib.hid hm
  obtain ⟨A3, c3, rfl, -, -⟩ := hm.bf.shape
  obtain ⟨Ad3, cd3, rfl, -, -⟩ := hm.dm.shape
  obtain ⟨Ao3, co3, rfl, -, -⟩ := hm.op.shape
  obtain ⟨Ai3, ci3, rfl, -, -⟩ := hm.ip.shape
  obtain ⟨Ac3, cc3, rfl, -, -⟩ := hm.cb.shape
  replace J := Lib.hid ((J.out.step hb).alloc (stC m (.slice A3 L3.length c3) (.slice Ad3 m.dm.length cd3) (.slice Ao3 m.op.length co3) (.slice Ai3 m.ip.length ci3) (.slice Ac3 m.cb.length cc3)) 28)
  have HB3 := Lib.hid ((Below.refl w3.heap.size w3).alloc (Nat.le_refl _) (.cells (stC m (.slice A3 L3.length c3) (.slice Ad3 m.dm.length cd3) (.slice Ao3 m.op.length co3) (.slice Ai3 m.ip.length ci3) (.slice Ac3 m.cb.length cc3)).toArray 28))
  clear hm hb CM
  go_upto_region 2 with fail
  generalize w3.alloc (.cells #[.int .i64 m.set, .slice A3 L3.length c3, .int .i64 m.sc, .int .i64 m.tr, .slice Ad3 m.dm.length cd3, .slice Ao3 m.op.length co3, .bool m.is, .slice Ai3 m.ip.length ci3, .int .i64 m.dx, .int .i64 m.dy, .slice Ac3 m.cb.length cc3] 28) = u3 at *
  have HM3 := Lib.hid (HM.out.below HB3.out)
  generalize w3.heap.size = k3 at *
  clear HB3
  have CK := fun (W : World) (hb : Below u3.heap.size u3 W) => Lib.hid (chk_any G (HM3.out.below hb) HFW.out)
  rw [HKC.out] at CK
  obtain ⟨x0, x1, x2, x3, x4, x5, x6, x7, x8, x9, x10, xf, xl⟩ := (show HO w u3 ([] ++ boxO k3 [_, _, _, _, _, _, _, _, _, _, _] :: _) from J.out).c11
  go_wp2_with fail
  refine (CK _ (Below.refl _ _)).out.mono ?_
  rintro e w4 ⟨rfl, hb⟩
  replace J := Lib.hid (J.out.step hb)
  have HM4 := Lib.hid (HM3.out.below hb)
  clear hb CK HM3 HM x0 x1 x2 x3 x4 x5 x6 x7 x8 x9 x10 xf xl
  by_cases hc : kc = 0
  · subst hc
    obtain ⟨x0, x1, x2, x3, x4, x5, x6, x7, x8, x9, x10, xf, xl⟩ := (show HO w w4 ([] ++ boxO k3 [_, _, _, _, _, _, _, _, _, _, _] :: _) from J.out).c11
    have CC := fun (W : World) (hb : Below w4.heap.size w4 W) => Lib.hid (clone_any (HM4.out.below hb) (by rw [← HM4.out.len]; exact HFW.out.bf) (fun q hq => HFW.out.px _ (by rw [← HM4.out.eq]; exact List.mem_map_of_mem hq)) (Nat.le_trans HFW.out.dm (by decide)) (Nat.le_trans HFW.out.op (by decide)) (Nat.le_trans HFW.out.ip (by decide)) HFW.out.cb)
    go_wp2_with fail
    refine (CC _ (Below.refl _ _)).out.mono ?_
    rintro e w5 ⟨L4, vb4, vd4, vo4, vi4, vc4, rfl, hL, hho⟩
    have HE5 := Lib.hid (hL.trans HM4.out.eq)
    have HM5 := Lib.hid (rowsO_st HE5.out hho)
    replace J := Lib.hid ((J.out.join hho).perm List.perm_append_comm)
    clear hho hL CC x0 x1 x2 x3 x4 x5 x6 x7 x8 x9 x10 xf xl
    obtain ⟨A4, c4, rfl, -, -⟩ := HM5.out.bf.shape
    obtain ⟨Ad4, cd4, rfl, -, -⟩ := HM5.out.dm.shape
    obtain ⟨Ao4, co4, rfl, -, -⟩ := HM5.out.op.shape
    obtain ⟨Ai4, ci4, rfl, -, -⟩ := HM5.out.ip.shape
    obtain ⟨Ac4, cc4, rfl, -, -⟩ := HM5.out.cb.shape
    clear HM5
    obtain ⟨x0, x1, x2, x3, x4, x5, x6, x7, x8, x9, x10, xf, xl⟩ := (show HO w w5 ([_] ++ boxO (w.heap.size + 2) [_, _, _, _, _, _, _, _, _, _, _] :: _) from J.out).c11
    have J2 := Lib.hid ((show HO w w5 ([_] ++ boxO (w.heap.size + 2) [_, _, _, _, _, _, _, _, _, _, _] :: _) from J.out).set11 (.int .i64 m.set) (.slice A4 L4.length c4) (.int .i64 m.sc) (.int .i64 m.tr) (.slice Ad4 m.dm.length cd4) (.slice Ao4 m.op.length co4) (.bool m.is) (.slice Ai4 m.ip.length ci4) (.int .i64 m.dx) (.int .i64 m.dy) (.slice Ac4 m.cb.length cc4))
    go_wp2_with fail
    obtain ⟨t0, t1, t2, t3, t4, t5, t6, t7, t8, t9, t10, -, -⟩ := (show HO w _ ([_] ++ boxO (w.heap.size + 2) [_, _, _, _, _, _, _, _, _, _, _] :: _) from J2.out).c11
    refine bodyPost_ret (v := .tuple #[stV m (.slice A4 L4.length c4) (.slice Ad4 m.dm.length cd4) (.slice Ao4 m.op.length co4) (.slice Ai4 m.ip.length ci4) (.slice Ac4 m.cb.length cc4), .int .i64 0]) (by simp [results, Tryz.results18, go_sem, t0, t1, t2, t3, t4, t5, t6, t7, t8, t9, t10]) rfl ?_
    exact ⟨L4, _, _, _, _, _, rfl, rowsO_st HE5.out (J2.out.sub (.cons _ (.cons _ (.cons _ (.cons _ (List.Sublist.refl _)))))), J2.out.below⟩
  · have hz2 : (kc == 0) = false := by simpa using hc
    obtain ⟨x0, x1, x2, x3, x4, x5, x6, x7, x8, x9, x10, xf, xl⟩ := (show HO w w4 ([_] ++ boxO (w.heap.size + 2) [_, _, _, _, _, _, _, _, _, _, _] :: _) from J.out).c11
    have J2 := Lib.hid ((show HO w w4 ([_] ++ boxO (w.heap.size + 2) [_, _, _, _, _, _, _, _, _, _, _] :: _) from J.out).set11 (.int .i64 0) (.slice none 0 0) (.int .i64 0) (.int .i64 0) (.slice none 0 0) (.slice none 0 0) (.bool false) (.slice none 0 0) (.int .i64 0) (.int .i64 0) (.slice none 0 0))
    go_wp2_with fail
    obtain ⟨t0, t1, t2, t3, t4, t5, t6, t7, t8, t9, t10, -, -⟩ := (show HO w _ ([_] ++ boxO (w.heap.size + 2) [_, _, _, _, _, _, _, _, _, _, _] :: _) from J2.out).c11
    refine bodyPost_ret (v := .tuple #[stV zeroS (.slice none 0 0) (.slice none 0 0) (.slice none 0 0) (.slice none 0 0) (.slice none 0 0), .int .i64 kc]) (by simp [results, Tryz.results18, go_sem, zeroS, t0, t1, t2, t3, t4, t5, t6, t7, t8, t9, t10]) rfl ?_
    exact ⟨[], _, _, _, _, _, rfl, st_init _ _ ⟨rfl, rfl, rfl, rfl, rfl⟩, J2.out.below⟩

end Go.Proofs.YthedglfocjljjaaGreatDoor
