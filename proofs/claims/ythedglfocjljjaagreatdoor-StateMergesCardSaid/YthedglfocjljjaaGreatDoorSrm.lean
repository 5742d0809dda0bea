/-
  The reference's state: the first region of Merge.
-/
import Derived.Test.YthedglfocjljjaaGreatDoorSmi
namespace Go.Proofs.YthedglfocjljjaaGreatDoor
open Go.RowKit

theorem uL_app (l m : List Nat) : uL (l ++ m) = uL l ++ uL m := List.map_append
theorem HO.front {w W : World} {l1 l2 : List Ob} {a : Ob} (h : HO w W (l1 ++ a :: l2)) : HO w W (a :: (l1 ++ l2)) := h.perm List.perm_middle.symm
theorem HO.c11c {w W : World} {l1 l2 : List Ob} {k : Nat} {x0 x1 x2 x3 x4 x5 x6 x7 x8 x9 x10 : Value} (h : HO w W (l1 ++ boxO k [x0, x1, x2, x3, x4, x5, x6, x7, x8, x9, x10] :: l2)) :
    W.cell? ⟨k, 0, none⟩ = some x0 ∧ W.cell? ⟨k, 1, none⟩ = some x1 ∧ W.cell? ⟨k, 2, none⟩ = some x2 ∧ W.cell? ⟨k, 3, none⟩ = some x3 ∧ W.cell? ⟨k, 4, none⟩ = some x4 ∧ W.cell? ⟨k, 5, none⟩ = some x5 ∧ W.cell? ⟨k, 6, none⟩ = some x6 ∧ W.cell? ⟨k, 7, none⟩ = some x7 ∧ W.cell? ⟨k, 8, none⟩ = some x8 ∧ W.cell? ⟨k, 9, none⟩ = some x9 ∧ W.cell? ⟨k, 10, none⟩ = some x10 :=
  ⟨h.c 0 rfl, h.c 1 rfl, h.c 2 rfl, h.c 3 rfl, h.c 4 rfl, h.c 5 rfl, h.c 6 rfl, h.c 7 rfl, h.c 8 rfl, h.c 9 rfl, h.c 10 rfl⟩
def joinO (m : List Ob) : Ob := ⟨fun W => ∀ o ∈ m, o.P W, fun k => ∃ o ∈ m, o.S k⟩
theorem HO.bundle {w W W' : World} {l m : List Ob} (h : HO w W l) (g : HO W W' m) : HO w W' (joinO m :: l) :=
  h.new g.below _ g.says (fun V V' hz hk hp o ho => g.keeps o ho V V' hz (fun k hs => hk k ⟨o, ho, hs⟩) (hp o ho)) (fun k ⟨o, ho, hs⟩ => g.lt o ho k hs)
theorem HO.bundleIn {w W : World} {l m : List Ob} (h : HO w W (m ++ l)) : HO w W (joinO m :: l) := by
  have hp := List.pairwise_append.1 h.pw
  refine ⟨h.below, fun o ho => ?_, fun o ho => ?_, fun o ho k hk => ?_, List.pairwise_cons.2 ⟨fun b hb k ⟨a, ha, hk⟩ => hp.2.2 a ha b hb k hk, hp.2.1⟩⟩
  · rcases List.mem_cons.1 ho with rfl | ho
    · exact fun a ha => h.says a (List.mem_append_left _ ha)
    · exact h.says o (List.mem_append_right _ ho)
  · rcases List.mem_cons.1 ho with rfl | ho
    · exact fun V V' hz hk hp a ha => h.keeps a (List.mem_append_left _ ha) V V' hz (fun k hs => hk k ⟨a, ha, hs⟩) (hp a ha)
    · exact h.keeps o (List.mem_append_right _ ho)
  · rcases List.mem_cons.1 ho with rfl | ho
    · obtain ⟨a, ha, hk⟩ := hk
      exact h.lt a (List.mem_append_left _ ha) k hk
    · exact h.lt o (List.mem_append_right _ ho) k hk
def leO (b : Nat) : Ob := ⟨fun W => b ≤ W.heap.size, fun _ => False⟩
theorem HO.le {w W : World} {l : List Ob} {b : Nat} (h : HO w W l) (hb : b ≤ W.heap.size) : HO w W (leO b :: l) :=
  h.new (Below.refl _ _) _ hb (fun _ _ hz _ hp => Nat.le_trans hp hz) (fun _ hk => hk.elim)
abbrev rowsN (base : Nat) (s : St) (L1 : List Bv) (vb vd vo vi : Value) : List Ob := leO base :: ([rowO base 53 4 vi s.ip.length (rflat s.ip), rowO base 53 4 vo s.op.length (rflat s.op), rowO base 53 4 vd s.dm.length (rflat s.dm), rowO base 42 3 vb L1.length (bfL L1)] ++ pxO base L1)
theorem HO.bundle1 {w W W' : World} {l : List Ob} {s : St} {L1 : List Bv} {vb vd vo vi vc : Value} (h : HO w W l) (g : HO W W' (rowsO W.heap.size s L1 vb vd vo vi vc)) : HO w W' (rowO W.heap.size 50 1 vc s.cb.length (uL s.cb) :: joinO (rowsN W.heap.size s L1 vb vd vo vi) :: l) := by
  have h2 := (h.join g).le (Nat.le_trans (Nat.le_refl _) g.below.size)
  have h3 := HO.perm h2 (m := rowsN W.heap.size s L1 vb vd vo vi ++ (rowO W.heap.size 50 1 vc s.cb.length (uL s.cb) :: l)) (List.Perm.cons _ List.perm_middle)
  exact h3.bundleIn.swap
theorem rowsN_st {W : World} {base : Nat} {s : St} {L1 : List Bv} {vb vd vo vi : Value} (he : L1.map Prod.fst = s.bf) (h : ∀ o ∈ rowsN base s L1 vb vd vo vi, o.P W) : StAt W { s with cb := [] } L1 vb vd vo vi (.slice none 0 0) where
  bf := sn_owned (h (rowO base 42 3 vb L1.length (bfL L1)) (by simp)) (bfL_len L1)
  px := fun p hp => sn_pxs (sn_owned (h (rowO base 58 4 p.2 p.1.l.length (flat p.1.l)) (by simp only [List.mem_cons, List.mem_append]; exact .inr (.inr (List.mem_map.2 ⟨p, hp, rfl⟩)))) (flat_length _))
  eq := he
  dm := sn_owned (h (rowO base 53 4 vd s.dm.length (rflat s.dm)) (by simp)) (rflat_length _)
  op := sn_owned (h (rowO base 53 4 vo s.op.length (rflat s.op)) (by simp)) (rflat_length _)
  ip := sn_owned (h (rowO base 53 4 vi s.ip.length (rflat s.ip)) (by simp)) (rflat_length _)
  cb := sn_nil _ _
theorem rowsO_st2 {W : World} {base : Nat} {s : St} {L1 : List Bv} {vb vd vo vi vc : Value} (he : L1.map Prod.fst = s.bf) (h : ∀ o ∈ rowsO base s L1 vb vd vo vi vc, o.P W) : StAt W s L1 vb vd vo vi vc where
  bf := sn_owned (h (rowO base 42 3 vb L1.length (bfL L1)) (by simp)) (bfL_len L1)
  px := fun p hp => sn_pxs (sn_owned (h (rowO base 58 4 p.2 p.1.l.length (flat p.1.l)) (by simp only [List.mem_append]; exact .inr (List.mem_map.2 ⟨p, hp, rfl⟩))) (flat_length _))
  eq := he
  dm := sn_owned (h (rowO base 53 4 vd s.dm.length (rflat s.dm)) (by simp)) (rflat_length _)
  op := sn_owned (h (rowO base 53 4 vo s.op.length (rflat s.op)) (by simp)) (rflat_length _)
  ip := sn_owned (h (rowO base 53 4 vi s.ip.length (rflat s.ip)) (by simp)) (rflat_length _)
  cb := sn_owned (h (rowO base 50 1 vc s.cb.length (uL s.cb)) (by simp)) (by simp)
theorem StF.fill {w : World} {Rw : List Ob} {s : St} {L : List Bv} {vb vd vo vi v : Value} {base n : Nat} (h : StF w Rw { s with cb := [] } L vb vd vo vi (.slice none 0 0)) (hn : n = s.cb.length) : StF w (rowO base 50 1 v n (uL s.cb) :: Rw) s L vb vd vo vi v := fun W hb hr =>
  let H := h W hb (fun o ho => hr o (List.mem_cons_of_mem _ ho))
  ⟨H.bf, H.px, H.eq, H.dm, H.op, H.ip, by subst hn; exact sn_owned (hr _ (List.mem_cons_self ..)) (by simp)⟩
theorem rm_drop {w W : World} {a b r c d e : Ob} (h : HO w W [a, b, r, c, d, e]) : HO w W ([a, e] ++ [r, c, d]) :=
  h.swap.tail.perm (List.Perm.cons a (List.perm_append_comm (l₁ := [e]) (l₂ := [r, c, d])))
section
variable {w : World} {Rw : List Ob} {s c p : St} {L M : List Bv} {vb vd vo vi vc ub ud uo ui uc : Value}
theorem StF.bf2 (h : StF w Rw s L vb vd vo vi vc) (g : StF w Rw p M ub ud uo ui uc) : StF w Rw (stpS 0 c p s) M ub vd vo vi vc := fun W hb hr => let H := h W hb hr; let G := g W hb hr; ⟨G.bf, G.px, G.eq, H.dm, H.op, H.ip, H.cb⟩
theorem StF.sc2 (h : StF w Rw s L vb vd vo vi vc) (_ : StF w Rw p M ub ud uo ui uc) : StF w Rw (stpS 1 c p s) L vb vd vo vi vc := fun W hb hr => let H := h W hb hr; ⟨H.bf, H.px, H.eq, H.dm, H.op, H.ip, H.cb⟩
theorem StF.tr2 (h : StF w Rw s L vb vd vo vi vc) (_ : StF w Rw p M ub ud uo ui uc) : StF w Rw (stpS 2 c p s) L vb vd vo vi vc := fun W hb hr => let H := h W hb hr; ⟨H.bf, H.px, H.eq, H.dm, H.op, H.ip, H.cb⟩
theorem StF.dm2 (h : StF w Rw s L vb vd vo vi vc) (g : StF w Rw p M ub ud uo ui uc) : StF w Rw (stpS 3 c p s) L vb ud vo vi vc := fun W hb hr => let H := h W hb hr; let G := g W hb hr; ⟨H.bf, H.px, H.eq, G.dm, H.op, H.ip, H.cb⟩
theorem StF.op2 (h : StF w Rw s L vb vd vo vi vc) (g : StF w Rw p M ub ud uo ui uc) : StF w Rw (stpS 4 c p s) L vb vd uo vi vc := fun W hb hr => let H := h W hb hr; let G := g W hb hr; ⟨H.bf, H.px, H.eq, H.dm, G.op, H.ip, H.cb⟩
theorem StF.ip2 (h : StF w Rw s L vb vd vo vi vc) (g : StF w Rw p M ub ud uo ui uc) : StF w Rw (stpS 5 c p s) L vb vd vo ui vc := fun W hb hr => let H := h W hb hr; let G := g W hb hr; ⟨H.bf, H.px, H.eq, H.dm, H.op, G.ip, H.cb⟩
theorem StF.dd2 (h : StF w Rw s L vb vd vo vi vc) (_ : StF w Rw p M ub ud uo ui uc) : StF w Rw (stpS 6 c p s) L vb vd vo vi vc := fun W hb hr => let H := h W hb hr; ⟨H.bf, H.px, H.eq, H.dm, H.op, H.ip, H.cb⟩
end
set_option maxRecDepth 100000 in
set_option maxHeartbeats 32000000 in
theorem rmerge_any {w : World} {c p : St} {L M : List Bv} {vb vd vo vi vc ub ud uo ui uc : Value} (h : StAt w c L vb vd vo vi vc) (g : StAt w p M ub ud uo ui uc) (hfc : Few c) (hfp : Few p) (hf : Few (mrgS c p)) :
    Calls Tryz.prog 19 #[stV c vb vd vo vi vc, stV p ub ud uo ui uc] w (MrO w c p) := by
  have CC1 := fun (W : World) (hb : Below w.heap.size w W) => Lib.hid (rclone_any (h.below hb) (by rw [← h.len]; exact hfc.bf) (fun q hq => hfc.px _ (by rw [← h.eq]; exact List.mem_map_of_mem hq)) (Nat.le_trans hfc.dm (by decide)) (Nat.le_trans hfc.op (by decide)) (Nat.le_trans hfc.ip (by decide)) hfc.cb)
  have CC2 := fun (W : World) (hb : Below w.heap.size w W) => Lib.hid (rclone_any (g.below hb) (by rw [← g.len]; exact hfp.bf) (fun q hq => hfp.px _ (by rw [← g.eq]; exact List.mem_map_of_mem hq)) (Nat.le_trans hfp.dm (by decide)) (Nat.le_trans hfp.op (by decide)) (Nat.le_trans hfp.ip (by decide)) hfp.cb)
  unfold ClO at CC1 CC2
  have HE1 := Lib.hid h.eq
  have HE2 := Lib.hid g.eq
  obtain ⟨n1, hn1⟩ : ∃ n, L.length = n := ⟨_, rfl⟩
  obtain ⟨n2, hn2⟩ : ∃ n, M.length = n := ⟨_, rfl⟩
  have HN1 := Lib.hid (show c.bf.length = n1 from by rw [← hn1]; exact h.len)
  have HN2 := Lib.hid (show p.bf.length = n2 from by rw [← hn2]; exact g.len)
  have hcb := hfc.cb
  have hpb := hfp.cb
  have HFW := Lib.hid hf
  obtain ⟨A1, c1, rfl, h11, h21⟩ := h.bf.shape
  obtain ⟨Ad1, cd1, rfl, hd11, hd21⟩ := h.dm.shape
  obtain ⟨Ao1, co1, rfl, ho11, ho21⟩ := h.op.shape
  obtain ⟨Ai1, ci1, rfl, hi11, hi21⟩ := h.ip.shape
  obtain ⟨Ac1, cc1, rfl, hc11, hc21⟩ := h.cb.shape
  obtain ⟨A2, c2, rfl, h12, h22⟩ := g.bf.shape
  obtain ⟨Ad2, cd2, rfl, hd12, hd22⟩ := g.dm.shape
  obtain ⟨Ao2, co2, rfl, ho12, ho22⟩ := g.op.shape
  obtain ⟨Ai2, ci2, rfl, hi12, hi22⟩ := g.ip.shape
  obtain ⟨Ac2, cc2, rfl, hc12, hc22⟩ := g.cb.shape
  rw [hn1] at CC1 h11 ⊢
  rw [hn2] at CC2 h12 ⊢
  have J0 := Lib.hid (show HO w (((w.alloc (.cells (stC c (.slice A1 n1 c1) (.slice Ad1 c.dm.length cd1) (.slice Ao1 c.op.length co1) (.slice Ai1 c.ip.length ci1) (.slice Ac1 c.cb.length cc1)).toArray 28)).alloc (.cells (stC p (.slice A2 n2 c2) (.slice Ad2 p.dm.length cd2) (.slice Ao2 p.op.length co2) (.slice Ai2 p.ip.length ci2) (.slice Ac2 p.cb.length cc2)).toArray 28)).alloc (.cells [.int .i64 0, .slice none 0 0, .int .i64 0, .int .i64 0, .slice none 0 0, .slice none 0 0, .bool false, .slice none 0 0, .int .i64 0, .int .i64 0, .slice none 0 0].toArray 28)) [boxO (w.heap.size + 2) [.int .i64 0, .slice none 0 0, .int .i64 0, .int .i64 0, .slice none 0 0, .slice none 0 0, .bool false, .slice none 0 0, .int .i64 0, .int .i64 0, .slice none 0 0], boxO (w.heap.size + 1) (stC p (.slice A2 n2 c2) (.slice Ad2 p.dm.length cd2) (.slice Ao2 p.op.length co2) (.slice Ai2 p.ip.length ci2) (.slice Ac2 p.cb.length cc2)), boxO w.heap.size (stC c (.slice A1 n1 c1) (.slice Ad1 c.dm.length cd1) (.slice Ao1 c.op.length co1) (.slice Ai1 c.ip.length ci1) (.slice Ac1 c.cb.length cc1))] from by
    have h := (((HO.nil w).alloc (stC c (.slice A1 n1 c1) (.slice Ad1 c.dm.length cd1) (.slice Ao1 c.op.length co1) (.slice Ai1 c.ip.length ci1) (.slice Ac1 c.cb.length cc1)) 28).alloc (stC p (.slice A2 n2 c2) (.slice Ad2 p.dm.length cd2) (.slice Ao2 p.op.length co2) (.slice Ai2 p.ip.length ci2) (.slice Ac2 p.cb.length cc2)) 28).alloc [.int .i64 0, .slice none 0 0, .int .i64 0, .int .i64 0, .slice none 0 0, .slice none 0 0, .bool false, .slice none 0 0, .int .i64 0, .int .i64 0, .slice none 0 0] 28
    simp only [World.size_alloc] at h
    exact h)
  obtain ⟨w0, hw0⟩ : ∃ x, x = ((w.alloc (.cells (stC c (.slice A1 n1 c1) (.slice Ad1 c.dm.length cd1) (.slice Ao1 c.op.length co1) (.slice Ai1 c.ip.length ci1) (.slice Ac1 c.cb.length cc1)).toArray 28)).alloc (.cells (stC p (.slice A2 n2 c2) (.slice Ad2 p.dm.length cd2) (.slice Ao2 p.op.length co2) (.slice Ai2 p.ip.length ci2) (.slice Ac2 p.cb.length cc2)).toArray 28)).alloc (.cells [.int .i64 0, .slice none 0 0, .int .i64 0, .int .i64 0, .slice none 0 0, .slice none 0 0, .bool false, .slice none 0 0, .int .i64 0, .int .i64 0, .slice none 0 0].toArray 28) := ⟨_, rfl⟩
  rw [← hw0] at J0
  unfold MrO mrgR
  clear h g hfc hfp hf hn1 hn2
  obtain ⟨m, hm⟩ : ∃ m, mrgS c p = m := ⟨_, rfl⟩
  rw [hm] at HFW ⊢
  obtain ⟨kc, hkc⟩ : ∃ kc, chkS m = kc := ⟨_, rfl⟩
  rw [hkc]
  have HM := Lib.hid (show mrgK c p 8 = m from hm)
  have HKC := Lib.hid hkc
  clear hm hkc
  go_enter Tryz.func19, Tryz.ntmps19
  go_upto_region 1 with fail
  try simp only [List.toArray] at hw0
  try rw [← hw0]
  clear hw0
  go_cut [6, 7] from 10 to 13 (fun s6 s7 wx => ∃ (k6 k7 b3 b4 : Nat) (M3 M4 : List Bv) (A3 : Option Addr) (c3 : Nat) (Ad3 : Option Addr) (cd3 : Nat) (Ao3 : Option Addr) (co3 : Nat) (Ai3 : Option Addr) (ci3 : Nat) (Ac3 : Option Addr) (cc3 : Nat) (A4 : Option Addr) (c4 : Nat) (Ad4 : Option Addr) (cd4 : Nat) (Ao4 : Option Addr) (co4 : Nat) (Ai4 : Option Addr) (ci4 : Nat) (Ac4 : Option Addr) (cc4 : Nat), s6 = .pointer (some ⟨k6, 0, none⟩) ∧ s7 = .pointer (some ⟨k7, 0, none⟩) ∧ Hid (M3.map Prod.fst = c.bf ∧ M4.map Prod.fst = p.bf) ∧ Hid (HO w wx [boxO k6 (stC c (.slice A3 n1 c3) (.slice Ad3 c.dm.length cd3) (.slice Ao3 c.op.length co3) (.slice Ai3 c.ip.length ci3) (.slice Ac3 c.cb.length cc3)), boxO k7 (stC p (.slice A4 n2 c4) (.slice Ad4 p.dm.length cd4) (.slice Ao4 p.op.length co4) (.slice Ai4 p.ip.length ci4) (.slice Ac4 p.cb.length cc4)), rowO b3 50 1 (.slice Ac3 c.cb.length cc3) c.cb.length (uL c.cb), joinO (rowsN b3 c M3 (.slice A3 n1 c3) (.slice Ad3 c.dm.length cd3) (.slice Ao3 c.op.length co3) (.slice Ai3 c.ip.length ci3)), joinO (rowsO b4 p M4 (.slice A4 n2 c4) (.slice Ad4 p.dm.length cd4) (.slice Ao4 p.op.length co4) (.slice Ai4 p.ip.length ci4) (.slice Ac4 p.cb.length cc4)), boxO (w.heap.size + 2) [.int .i64 0, .slice none 0 0, .int .i64 0, .int .i64 0, .slice none 0 0, .slice none 0 0, .bool false, .slice none 0 0, .int .i64 0, .int .i64 0, .slice none 0 0], boxO (w.heap.size + 1) (stC p (.slice A2 n2 c2) (.slice Ad2 p.dm.length cd2) (.slice Ao2 p.op.length co2) (.slice Ai2 p.ip.length ci2) (.slice Ac2 p.cb.length cc2)), boxO w.heap.size (stC c (.slice A1 n1 c1) (.slice Ad1 c.dm.length cd1) (.slice Ao1 c.op.length co1) (.slice Ai1 c.ip.length ci1) (.slice Ac1 c.cb.length cc1))]))
  case first =>
    have J := Lib.hid J0.out.drew
    have sk := And.intro (show HO w _ ([_, _] ++ boxO w.heap.size [_, _, _, _, _, _, _, _, _, _, _] :: _) from J.out).c11c (show HO w _ ([_] ++ boxO (w.heap.size + 1) [_, _, _, _, _, _, _, _, _, _, _] :: _) from J.out).c11c
    refine wp_region_held_drew (S := (fun W => (W.cell? ⟨w.heap.size, 0, none⟩ = some (.int .i64 c.set) ∧ W.cell? ⟨w.heap.size, 1, none⟩ = some (.slice A1 n1 c1) ∧ W.cell? ⟨w.heap.size, 2, none⟩ = some (.int .i64 c.sc) ∧ W.cell? ⟨w.heap.size, 3, none⟩ = some (.int .i64 c.tr) ∧ W.cell? ⟨w.heap.size, 4, none⟩ = some (.slice Ad1 c.dm.length cd1) ∧ W.cell? ⟨w.heap.size, 5, none⟩ = some (.slice Ao1 c.op.length co1) ∧ W.cell? ⟨w.heap.size, 6, none⟩ = some (.bool c.is) ∧ W.cell? ⟨w.heap.size, 7, none⟩ = some (.slice Ai1 c.ip.length ci1) ∧ W.cell? ⟨w.heap.size, 8, none⟩ = some (.int .i64 c.dx) ∧ W.cell? ⟨w.heap.size, 9, none⟩ = some (.int .i64 c.dy) ∧ W.cell? ⟨w.heap.size, 10, none⟩ = some (.slice Ac1 c.cb.length cc1)) ∧ (W.cell? ⟨w.heap.size + 1, 0, none⟩ = some (.int .i64 p.set) ∧ W.cell? ⟨w.heap.size + 1, 1, none⟩ = some (.slice A2 n2 c2) ∧ W.cell? ⟨w.heap.size + 1, 2, none⟩ = some (.int .i64 p.sc) ∧ W.cell? ⟨w.heap.size + 1, 3, none⟩ = some (.int .i64 p.tr) ∧ W.cell? ⟨w.heap.size + 1, 4, none⟩ = some (.slice Ad2 p.dm.length cd2) ∧ W.cell? ⟨w.heap.size + 1, 5, none⟩ = some (.slice Ao2 p.op.length co2) ∧ W.cell? ⟨w.heap.size + 1, 6, none⟩ = some (.bool p.is) ∧ W.cell? ⟨w.heap.size + 1, 7, none⟩ = some (.slice Ai2 p.ip.length ci2) ∧ W.cell? ⟨w.heap.size + 1, 8, none⟩ = some (.int .i64 p.dx) ∧ W.cell? ⟨w.heap.size + 1, 9, none⟩ = some (.int .i64 p.dy) ∧ W.cell? ⟨w.heap.size + 1, 10, none⟩ = some (.slice Ac2 p.cb.length cc2)))) (by kernel_rfl) sk (fun hHeld => ?_)
    generalize w0.drew = u0 at *
    refine wpAnyH_take (i := 0) (oi := ({ dst := some 10, op := Go.Op.load 28 (Go.Operand.tmp 2), type := 28, pos := "ref.go:65", after := #[], guard := none } : Oper)) (v := ?_) rfl (by kernel_rfl) (by kernel_rfl) (by kernel_rfl) (fun _ _ _ h => h) (Or.inl ⟨by kernel_rfl, ?_⟩) hHeld ?_
    rotate_left 1
    · (intro W hSw; (try dsimp only at hSw); go_simp; try with_reducible rfl)
    try simp only [Act.put, List.setIfInBounds_toArray, List.set_cons_zero, List.set_cons_succ]
    refine wpAnyH_take (i := 2) (oi := ({ dst := some 12, op := Go.Op.load 28 (Go.Operand.tmp 3), type := 28, pos := "ref.go:65", after := #[], guard := none } : Oper)) (v := ?_) rfl (by kernel_rfl) (by kernel_rfl) (by kernel_rfl) (fun _ _ _ h => h) (Or.inl ⟨by kernel_rfl, ?_⟩) hHeld ?_
    rotate_left 1
    · (intro W hSw; (try dsimp only at hSw); go_simp; try with_reducible rfl)
    try simp only [Act.put, List.setIfInBounds_toArray, List.set_cons_zero, List.set_cons_succ]
    refine wpAnyH_ready (rs := [1, 4, 5]) (by kernel_rfl) (by simp) (AllReadyH.cons (o := ({ dst := some 11, op := Go.Op.call { callee := Go.Callee.value (Go.Operand.func 35), args := #[Go.Operand.tmp 10], argTypes := #[28] }, type := 28, pos := "ref.go:65", after := #[{ on := 0, ground := Go.Ground.data }], guard := none } : Oper)) rfl (fun K hK => ?_) (AllReadyH.cons (o := ({ dst := some 6, op := Go.Op.alloc 28, type := 0, pos := "ref.go:65", after := #[], guard := none } : Oper)) rfl (fun K hK => ?_) (AllReadyH.cons (o := ({ dst := some 7, op := Go.Op.alloc 28, type := 0, pos := "ref.go:65", after := #[], guard := none } : Oper)) rfl (fun K hK => ?_) AllReadyH.nil)))
    · go_simp
      refine (CC1 _ J.out.below).out.mono ?_
      rintro e u1 ⟨M3, vb3, vd3, vo3, vi3, vc3, rfl, hL3, hho⟩
      have HL3 := Lib.hid (hL3.trans HE1.out)
      have hst := rowsO_st HL3.out hho
      obtain ⟨A3, c3, hv1, -, -⟩ := hst.bf.shape
      obtain ⟨Ad3, cd3, hv2, -, -⟩ := hst.dm.shape
      obtain ⟨Ao3, co3, hv3, -, -⟩ := hst.op.shape
      obtain ⟨Ai3, ci3, hv4, -, -⟩ := hst.ip.shape
      obtain ⟨Ac3, cc3, hv5, -, -⟩ := hst.cb.shape
      have hlen3 : M3.length = n1 := by rw [← HN1.out, ← List.length_map, HL3.out]
      rw [hlen3] at hv1
      subst hv1 hv2 hv3 hv4 hv5
      replace J := Lib.hid (J.out.bundle1 hho)
      generalize u0.heap.size = b3 at *
      clear hho hL3 hst sk hlen3
      have sk := And.intro (show HO w _ ([_, _, _, _] ++ boxO w.heap.size [_, _, _, _, _, _, _, _, _, _, _] :: _) from J.out).c11c (show HO w _ ([_, _, _] ++ boxO (w.heap.size + 1) [_, _, _, _, _, _, _, _, _, _, _] :: _) from J.out).c11c
      refine hK.out _ _ sk (fun hHeld2 => ?_)
      clear hK K hHeld
      have hHeld := hHeld2
      clear hHeld2
      try simp only [Act.put, List.setIfInBounds_toArray, List.set_cons_zero, List.set_cons_succ]
      refine wpAnyH_ready (rs := [3, 4, 5]) (by kernel_rfl) (by simp) (AllReadyH.cons (o := ({ dst := some 13, op := Go.Op.call { callee := Go.Callee.value (Go.Operand.func 35), args := #[Go.Operand.tmp 12], argTypes := #[28] }, type := 28, pos := "ref.go:65", after := #[{ on := 2, ground := Go.Ground.data }, { on := 1, ground := Go.Ground.chain }], guard := none } : Oper)) rfl (fun K hK => ?_) (AllReadyH.cons (o := ({ dst := some 6, op := Go.Op.alloc 28, type := 0, pos := "ref.go:65", after := #[], guard := none } : Oper)) rfl (fun K hK => ?_) (AllReadyH.cons (o := ({ dst := some 7, op := Go.Op.alloc 28, type := 0, pos := "ref.go:65", after := #[], guard := none } : Oper)) rfl (fun K hK => ?_) AllReadyH.nil)))
      · go_simp
        refine (CC2 _ J.out.below).out.mono ?_
        rintro e u2 ⟨M4, vb4, vd4, vo4, vi4, vc4, rfl, hL4, hho⟩
        have HL4 := Lib.hid (hL4.trans HE2.out)
        have hst := rowsO_st HL4.out hho
        obtain ⟨A4, c4, hv1, -, -⟩ := hst.bf.shape
        obtain ⟨Ad4, cd4, hv2, -, -⟩ := hst.dm.shape
        obtain ⟨Ao4, co4, hv3, -, -⟩ := hst.op.shape
        obtain ⟨Ai4, ci4, hv4, -, -⟩ := hst.ip.shape
        obtain ⟨Ac4, cc4, hv5, -, -⟩ := hst.cb.shape
        have hlen4 : M4.length = n2 := by rw [← HN2.out, ← List.length_map, HL4.out]
        rw [hlen4] at hv1
        subst hv1 hv2 hv3 hv4 hv5
        replace J := Lib.hid (J.out.bundle hho)
        generalize u1.heap.size = b4 at *
        clear hho hL4 hst sk hlen4
        have sk := And.intro (show HO w _ ([_, _, _, _, _] ++ boxO w.heap.size [_, _, _, _, _, _, _, _, _, _, _] :: _) from J.out).c11c (show HO w _ ([_, _, _, _] ++ boxO (w.heap.size + 1) [_, _, _, _, _, _, _, _, _, _, _] :: _) from J.out).c11c
        refine hK.out _ _ sk (fun hHeld2 => ?_)
        clear hK K hHeld
        have hHeld := hHeld2
        clear hHeld2
        try simp only [Act.put, List.setIfInBounds_toArray, List.set_cons_zero, List.set_cons_succ]
        refine wpAnyH_ready (rs := [4, 5]) (by kernel_rfl) (by simp) (AllReadyH.cons (o := ({ dst := some 6, op := Go.Op.alloc 28, type := 0, pos := "ref.go:65", after := #[], guard := none } : Oper)) rfl (fun K hK => ?_) (AllReadyH.cons (o := ({ dst := some 7, op := Go.Op.alloc 28, type := 0, pos := "ref.go:65", after := #[], guard := none } : Oper)) rfl (fun K hK => ?_) AllReadyH.nil))
        · go_simp
          replace J := Lib.hid (J.out.alloc [.int .i64 0, .slice none 0 0, .int .i64 0, .int .i64 0, .slice none 0 0, .slice none 0 0, .bool false, .slice none 0 0, .int .i64 0, .int .i64 0, .slice none 0 0] 28)
          generalize u2.alloc (.cells #[.int .i64 0, .slice none 0 0, .int .i64 0, .int .i64 0, .slice none 0 0, .slice none 0 0, .bool false, .slice none 0 0, .int .i64 0, .int .i64 0, .slice none 0 0] 28) = u3 at *
          generalize u2.heap.size = k6 at *
          clear sk
          have sk := And.intro (show HO w _ ([_, _, _, _, _, _] ++ boxO w.heap.size [_, _, _, _, _, _, _, _, _, _, _] :: _) from J.out).c11c (show HO w _ ([_, _, _, _, _] ++ boxO (w.heap.size + 1) [_, _, _, _, _, _, _, _, _, _, _] :: _) from J.out).c11c
          refine hK.out _ _ sk (fun hHeld2 => ?_)
          clear hK K hHeld
          have hHeld := hHeld2
          clear hHeld2
          try simp only [Act.put, List.setIfInBounds_toArray, List.set_cons_zero, List.set_cons_succ]
          refine wpAnyH_ready (rs := [5]) (by kernel_rfl) (by simp) (AllReadyH.cons (o := ({ dst := some 7, op := Go.Op.alloc 28, type := 0, pos := "ref.go:65", after := #[], guard := none } : Oper)) rfl (fun K hK => ?_) AllReadyH.nil)
          go_simp
          replace J := Lib.hid (J.out.alloc [.int .i64 0, .slice none 0 0, .int .i64 0, .int .i64 0, .slice none 0 0, .slice none 0 0, .bool false, .slice none 0 0, .int .i64 0, .int .i64 0, .slice none 0 0] 28)
          generalize u3.alloc (.cells #[.int .i64 0, .slice none 0 0, .int .i64 0, .int .i64 0, .slice none 0 0, .slice none 0 0, .bool false, .slice none 0 0, .int .i64 0, .int .i64 0, .slice none 0 0] 28) = u4 at *
          generalize u3.heap.size = k7 at *
          clear sk
          have sk := And.intro (show HO w _ ([_, _, _, _, _, _, _] ++ boxO w.heap.size [_, _, _, _, _, _, _, _, _, _, _] :: _) from J.out).c11c (show HO w _ ([_, _, _, _, _, _] ++ boxO (w.heap.size + 1) [_, _, _, _, _, _, _, _, _, _, _] :: _) from J.out).c11c
          refine hK.out _ _ sk (fun hHeld2 => ?_)
          clear hK K hHeld
          have hHeld := hHeld2
          clear hHeld2
          try simp only [Act.put, List.setIfInBounds_toArray, List.set_cons_zero, List.set_cons_succ]
          refine wpAnyH_ready (rs := [6]) (by kernel_rfl) (by simp) (AllReadyH.cons (o := ({ dst := none, op := Go.Op.store 28 (Go.Operand.tmp 6) (Go.Operand.tmp 11), type := 0, pos := "ref.go:65", after := #[{ on := 4, ground := Go.Ground.data }, { on := 1, ground := Go.Ground.data }, { on := 3, ground := Go.Ground.chain }, { on := 0, ground := Go.Ground.phase }, { on := 1, ground := Go.Ground.phase }, { on := 2, ground := Go.Ground.textOnly Go.Departure.lateStores }, { on := 3, ground := Go.Ground.textOnly Go.Departure.lateStoresUnsure }, { on := 4, ground := Go.Ground.phase }, { on := 5, ground := Go.Ground.phase }], guard := none } : Oper)) rfl (fun K hK => ?_) AllReadyH.nil)
          obtain ⟨q0, q1, q2, q3, q4, q5, q6, q7, q8, q9, q10, qf, ql⟩ := (show HO w u4 ([_] ++ boxO k6 [_, _, _, _, _, _, _, _, _, _, _] :: _) from J.out).c11
          go_simp
          replace J := Lib.hid ((show HO w u4 ([_] ++ boxO k6 [_, _, _, _, _, _, _, _, _, _, _] :: _) from J.out).set11 (.int .i64 c.set) (.slice A3 n1 c3) (.int .i64 c.sc) (.int .i64 c.tr) (.slice Ad3 c.dm.length cd3) (.slice Ao3 c.op.length co3) (.bool c.is) (.slice Ai3 c.ip.length ci3) (.int .i64 c.dx) (.int .i64 c.dy) (.slice Ac3 c.cb.length cc3))
          generalize ((((((((((u4.setCell ⟨k6, 0, none⟩ (.int .i64 c.set)).setCell ⟨k6, 1, none⟩ (.slice A3 n1 c3)).setCell ⟨k6, 2, none⟩ (.int .i64 c.sc)).setCell ⟨k6, 3, none⟩ (.int .i64 c.tr)).setCell ⟨k6, 4, none⟩ (.slice Ad3 c.dm.length cd3)).setCell ⟨k6, 5, none⟩ (.slice Ao3 c.op.length co3)).setCell ⟨k6, 6, none⟩ (.bool c.is)).setCell ⟨k6, 7, none⟩ (.slice Ai3 c.ip.length ci3)).setCell ⟨k6, 8, none⟩ (.int .i64 c.dx)).setCell ⟨k6, 9, none⟩ (.int .i64 c.dy)).setCell ⟨k6, 10, none⟩ (.slice Ac3 c.cb.length cc3) = u5 at *
          clear q0 q1 q2 q3 q4 q5 q6 q7 q8 q9 q10 qf ql sk
          have sk := And.intro (show HO w _ ([_, _, _, _, _, _, _] ++ boxO w.heap.size [_, _, _, _, _, _, _, _, _, _, _] :: _) from J.out).c11c (show HO w _ ([_, _, _, _, _, _] ++ boxO (w.heap.size + 1) [_, _, _, _, _, _, _, _, _, _, _] :: _) from J.out).c11c
          refine hK.out _ _ sk (fun hHeld2 => ?_)
          clear hK K hHeld
          have hHeld := hHeld2
          clear hHeld2
          try simp only [Act.put, List.setIfInBounds_toArray, List.set_cons_zero, List.set_cons_succ]
          refine wpAnyH_ready (rs := [7]) (by kernel_rfl) (by simp) (AllReadyH.cons (o := ({ dst := none, op := Go.Op.store 28 (Go.Operand.tmp 7) (Go.Operand.tmp 13), type := 0, pos := "ref.go:65", after := #[{ on := 5, ground := Go.Ground.data }, { on := 3, ground := Go.Ground.data }, { on := 6, ground := Go.Ground.chain }, { on := 0, ground := Go.Ground.phase }, { on := 1, ground := Go.Ground.phase }, { on := 2, ground := Go.Ground.phase }, { on := 3, ground := Go.Ground.phase }, { on := 4, ground := Go.Ground.phase }, { on := 5, ground := Go.Ground.phase }, { on := 6, ground := Go.Ground.phase }], guard := none } : Oper)) rfl (fun K hK => ?_) AllReadyH.nil)
          obtain ⟨q0, q1, q2, q3, q4, q5, q6, q7, q8, q9, q10, qf, ql⟩ := (show HO w u5 ([] ++ boxO k7 [_, _, _, _, _, _, _, _, _, _, _] :: _) from J.out).c11
          go_simp
          replace J := Lib.hid ((show HO w u5 ([] ++ boxO k7 [_, _, _, _, _, _, _, _, _, _, _] :: _) from J.out).set11 (.int .i64 p.set) (.slice A4 n2 c4) (.int .i64 p.sc) (.int .i64 p.tr) (.slice Ad4 p.dm.length cd4) (.slice Ao4 p.op.length co4) (.bool p.is) (.slice Ai4 p.ip.length ci4) (.int .i64 p.dx) (.int .i64 p.dy) (.slice Ac4 p.cb.length cc4))
          generalize ((((((((((u5.setCell ⟨k7, 0, none⟩ (.int .i64 p.set)).setCell ⟨k7, 1, none⟩ (.slice A4 n2 c4)).setCell ⟨k7, 2, none⟩ (.int .i64 p.sc)).setCell ⟨k7, 3, none⟩ (.int .i64 p.tr)).setCell ⟨k7, 4, none⟩ (.slice Ad4 p.dm.length cd4)).setCell ⟨k7, 5, none⟩ (.slice Ao4 p.op.length co4)).setCell ⟨k7, 6, none⟩ (.bool p.is)).setCell ⟨k7, 7, none⟩ (.slice Ai4 p.ip.length ci4)).setCell ⟨k7, 8, none⟩ (.int .i64 p.dx)).setCell ⟨k7, 9, none⟩ (.int .i64 p.dy)).setCell ⟨k7, 10, none⟩ (.slice Ac4 p.cb.length cc4) = u6 at *
          clear q0 q1 q2 q3 q4 q5 q6 q7 q8 q9 q10 qf ql sk
          have sk := And.intro (show HO w _ ([_, _, _, _, _, _, _] ++ boxO w.heap.size [_, _, _, _, _, _, _, _, _, _, _] :: _) from J.out).c11c (show HO w _ ([_, _, _, _, _, _] ++ boxO (w.heap.size + 1) [_, _, _, _, _, _, _, _, _, _, _] :: _) from J.out).c11c
          refine hK.out _ _ sk (fun hHeld2 => ?_)
          clear hK K hHeld
          have hHeld := hHeld2
          clear hHeld2
          try simp only [Act.put, List.setIfInBounds_toArray, List.set_cons_zero, List.set_cons_succ]
          refine wpAnyH_done (by kernel_rfl) ?_ _
          clear sk
          replace J := Lib.hid (show HO w _ ([_, _] ++ _ :: _) from J.out).front
          replace J := Lib.hid (show HO w _ ([_, _, _, _] ++ _ :: _) from J.out).front
          replace J := Lib.hid (show HO w _ ([_, _, _, _] ++ _ :: _) from J.out).front
          replace J := Lib.hid (show HO w _ ([_, _, _] ++ _ :: _) from J.out).front
          replace J := Lib.hid (show HO w _ ([_, _, _, _] ++ _ :: _) from J.out).front
          go_wp2_with fail
          go_meet
          case rel => exact ⟨k6, k7, b3, b4, M3, M4, A3, c3, Ad3, cd3, Ao3, co3, Ai3, ci3, Ac3, cc3, A4, c4, Ad4, cd4, Ao4, co4, Ai4, ci4, Ac4, cc4, rfl, rfl, Lib.hid ⟨HL3.out, HL4.out⟩, J⟩
        · go_simp
          replace J := Lib.hid (J.out.alloc [.int .i64 0, .slice none 0 0, .int .i64 0, .int .i64 0, .slice none 0 0, .slice none 0 0, .bool false, .slice none 0 0, .int .i64 0, .int .i64 0, .slice none 0 0] 28)
          generalize u2.alloc (.cells #[.int .i64 0, .slice none 0 0, .int .i64 0, .int .i64 0, .slice none 0 0, .slice none 0 0, .bool false, .slice none 0 0, .int .i64 0, .int .i64 0, .slice none 0 0] 28) = u3 at *
          generalize u2.heap.size = k7 at *
          clear sk
          have sk := And.intro (show HO w _ ([_, _, _, _, _, _] ++ boxO w.heap.size [_, _, _, _, _, _, _, _, _, _, _] :: _) from J.out).c11c (show HO w _ ([_, _, _, _, _] ++ boxO (w.heap.size + 1) [_, _, _, _, _, _, _, _, _, _, _] :: _) from J.out).c11c
          refine hK.out _ _ sk (fun hHeld2 => ?_)
          clear hK K hHeld
          have hHeld := hHeld2
          clear hHeld2
          try simp only [Act.put, List.setIfInBounds_toArray, List.set_cons_zero, List.set_cons_succ]
          refine wpAnyH_ready (rs := [4]) (by kernel_rfl) (by simp) (AllReadyH.cons (o := ({ dst := some 6, op := Go.Op.alloc 28, type := 0, pos := "ref.go:65", after := #[], guard := none } : Oper)) rfl (fun K hK => ?_) AllReadyH.nil)
          go_simp
          replace J := Lib.hid (J.out.alloc [.int .i64 0, .slice none 0 0, .int .i64 0, .int .i64 0, .slice none 0 0, .slice none 0 0, .bool false, .slice none 0 0, .int .i64 0, .int .i64 0, .slice none 0 0] 28)
          generalize u3.alloc (.cells #[.int .i64 0, .slice none 0 0, .int .i64 0, .int .i64 0, .slice none 0 0, .slice none 0 0, .bool false, .slice none 0 0, .int .i64 0, .int .i64 0, .slice none 0 0] 28) = u4 at *
          generalize u3.heap.size = k6 at *
          clear sk
          have sk := And.intro (show HO w _ ([_, _, _, _, _, _, _] ++ boxO w.heap.size [_, _, _, _, _, _, _, _, _, _, _] :: _) from J.out).c11c (show HO w _ ([_, _, _, _, _, _] ++ boxO (w.heap.size + 1) [_, _, _, _, _, _, _, _, _, _, _] :: _) from J.out).c11c
          refine hK.out _ _ sk (fun hHeld2 => ?_)
          clear hK K hHeld
          have hHeld := hHeld2
          clear hHeld2
          try simp only [Act.put, List.setIfInBounds_toArray, List.set_cons_zero, List.set_cons_succ]
          refine wpAnyH_ready (rs := [6]) (by kernel_rfl) (by simp) (AllReadyH.cons (o := ({ dst := none, op := Go.Op.store 28 (Go.Operand.tmp 6) (Go.Operand.tmp 11), type := 0, pos := "ref.go:65", after := #[{ on := 4, ground := Go.Ground.data }, { on := 1, ground := Go.Ground.data }, { on := 3, ground := Go.Ground.chain }, { on := 0, ground := Go.Ground.phase }, { on := 1, ground := Go.Ground.phase }, { on := 2, ground := Go.Ground.textOnly Go.Departure.lateStores }, { on := 3, ground := Go.Ground.textOnly Go.Departure.lateStoresUnsure }, { on := 4, ground := Go.Ground.phase }, { on := 5, ground := Go.Ground.phase }], guard := none } : Oper)) rfl (fun K hK => ?_) AllReadyH.nil)
          obtain ⟨q0, q1, q2, q3, q4, q5, q6, q7, q8, q9, q10, qf, ql⟩ := (show HO w u4 ([] ++ boxO k6 [_, _, _, _, _, _, _, _, _, _, _] :: _) from J.out).c11
          go_simp
          replace J := Lib.hid ((show HO w u4 ([] ++ boxO k6 [_, _, _, _, _, _, _, _, _, _, _] :: _) from J.out).set11 (.int .i64 c.set) (.slice A3 n1 c3) (.int .i64 c.sc) (.int .i64 c.tr) (.slice Ad3 c.dm.length cd3) (.slice Ao3 c.op.length co3) (.bool c.is) (.slice Ai3 c.ip.length ci3) (.int .i64 c.dx) (.int .i64 c.dy) (.slice Ac3 c.cb.length cc3))
          generalize ((((((((((u4.setCell ⟨k6, 0, none⟩ (.int .i64 c.set)).setCell ⟨k6, 1, none⟩ (.slice A3 n1 c3)).setCell ⟨k6, 2, none⟩ (.int .i64 c.sc)).setCell ⟨k6, 3, none⟩ (.int .i64 c.tr)).setCell ⟨k6, 4, none⟩ (.slice Ad3 c.dm.length cd3)).setCell ⟨k6, 5, none⟩ (.slice Ao3 c.op.length co3)).setCell ⟨k6, 6, none⟩ (.bool c.is)).setCell ⟨k6, 7, none⟩ (.slice Ai3 c.ip.length ci3)).setCell ⟨k6, 8, none⟩ (.int .i64 c.dx)).setCell ⟨k6, 9, none⟩ (.int .i64 c.dy)).setCell ⟨k6, 10, none⟩ (.slice Ac3 c.cb.length cc3) = u5 at *
          clear q0 q1 q2 q3 q4 q5 q6 q7 q8 q9 q10 qf ql sk
          have sk := And.intro (show HO w _ ([_, _, _, _, _, _, _] ++ boxO w.heap.size [_, _, _, _, _, _, _, _, _, _, _] :: _) from J.out).c11c (show HO w _ ([_, _, _, _, _, _] ++ boxO (w.heap.size + 1) [_, _, _, _, _, _, _, _, _, _, _] :: _) from J.out).c11c
          refine hK.out _ _ sk (fun hHeld2 => ?_)
          clear hK K hHeld
          have hHeld := hHeld2
          clear hHeld2
          try simp only [Act.put, List.setIfInBounds_toArray, List.set_cons_zero, List.set_cons_succ]
          refine wpAnyH_ready (rs := [7]) (by kernel_rfl) (by simp) (AllReadyH.cons (o := ({ dst := none, op := Go.Op.store 28 (Go.Operand.tmp 7) (Go.Operand.tmp 13), type := 0, pos := "ref.go:65", after := #[{ on := 5, ground := Go.Ground.data }, { on := 3, ground := Go.Ground.data }, { on := 6, ground := Go.Ground.chain }, { on := 0, ground := Go.Ground.phase }, { on := 1, ground := Go.Ground.phase }, { on := 2, ground := Go.Ground.phase }, { on := 3, ground := Go.Ground.phase }, { on := 4, ground := Go.Ground.phase }, { on := 5, ground := Go.Ground.phase }, { on := 6, ground := Go.Ground.phase }], guard := none } : Oper)) rfl (fun K hK => ?_) AllReadyH.nil)
          obtain ⟨q0, q1, q2, q3, q4, q5, q6, q7, q8, q9, q10, qf, ql⟩ := (show HO w u5 ([_] ++ boxO k7 [_, _, _, _, _, _, _, _, _, _, _] :: _) from J.out).c11
          go_simp
          replace J := Lib.hid ((show HO w u5 ([_] ++ boxO k7 [_, _, _, _, _, _, _, _, _, _, _] :: _) from J.out).set11 (.int .i64 p.set) (.slice A4 n2 c4) (.int .i64 p.sc) (.int .i64 p.tr) (.slice Ad4 p.dm.length cd4) (.slice Ao4 p.op.length co4) (.bool p.is) (.slice Ai4 p.ip.length ci4) (.int .i64 p.dx) (.int .i64 p.dy) (.slice Ac4 p.cb.length cc4))
          generalize ((((((((((u5.setCell ⟨k7, 0, none⟩ (.int .i64 p.set)).setCell ⟨k7, 1, none⟩ (.slice A4 n2 c4)).setCell ⟨k7, 2, none⟩ (.int .i64 p.sc)).setCell ⟨k7, 3, none⟩ (.int .i64 p.tr)).setCell ⟨k7, 4, none⟩ (.slice Ad4 p.dm.length cd4)).setCell ⟨k7, 5, none⟩ (.slice Ao4 p.op.length co4)).setCell ⟨k7, 6, none⟩ (.bool p.is)).setCell ⟨k7, 7, none⟩ (.slice Ai4 p.ip.length ci4)).setCell ⟨k7, 8, none⟩ (.int .i64 p.dx)).setCell ⟨k7, 9, none⟩ (.int .i64 p.dy)).setCell ⟨k7, 10, none⟩ (.slice Ac4 p.cb.length cc4) = u6 at *
          clear q0 q1 q2 q3 q4 q5 q6 q7 q8 q9 q10 qf ql sk
          have sk := And.intro (show HO w _ ([_, _, _, _, _, _, _] ++ boxO w.heap.size [_, _, _, _, _, _, _, _, _, _, _] :: _) from J.out).c11c (show HO w _ ([_, _, _, _, _, _] ++ boxO (w.heap.size + 1) [_, _, _, _, _, _, _, _, _, _, _] :: _) from J.out).c11c
          refine hK.out _ _ sk (fun hHeld2 => ?_)
          clear hK K hHeld
          have hHeld := hHeld2
          clear hHeld2
          try simp only [Act.put, List.setIfInBounds_toArray, List.set_cons_zero, List.set_cons_succ]
          refine wpAnyH_done (by kernel_rfl) ?_ _
          clear sk
          replace J := Lib.hid (show HO w _ ([_, _] ++ _ :: _) from J.out).front
          replace J := Lib.hid (show HO w _ ([_, _, _, _] ++ _ :: _) from J.out).front
          replace J := Lib.hid (show HO w _ ([_, _, _, _] ++ _ :: _) from J.out).front
          replace J := Lib.hid (show HO w _ ([_, _, _, _] ++ _ :: _) from J.out).front
          replace J := Lib.hid (show HO w _ ([_, _, _, _] ++ _ :: _) from J.out).front
          go_wp2_with fail
          go_meet
          case rel => exact ⟨k6, k7, b3, b4, M3, M4, A3, c3, Ad3, cd3, Ao3, co3, Ai3, ci3, Ac3, cc3, A4, c4, Ad4, cd4, Ao4, co4, Ai4, ci4, Ac4, cc4, rfl, rfl, Lib.hid ⟨HL3.out, HL4.out⟩, J⟩
      · go_simp
        replace J := Lib.hid (J.out.alloc [.int .i64 0, .slice none 0 0, .int .i64 0, .int .i64 0, .slice none 0 0, .slice none 0 0, .bool false, .slice none 0 0, .int .i64 0, .int .i64 0, .slice none 0 0] 28)
        generalize u1.alloc (.cells #[.int .i64 0, .slice none 0 0, .int .i64 0, .int .i64 0, .slice none 0 0, .slice none 0 0, .bool false, .slice none 0 0, .int .i64 0, .int .i64 0, .slice none 0 0] 28) = u2 at *
        generalize u1.heap.size = k6 at *
        clear sk
        have sk := And.intro (show HO w _ ([_, _, _, _, _] ++ boxO w.heap.size [_, _, _, _, _, _, _, _, _, _, _] :: _) from J.out).c11c (show HO w _ ([_, _, _, _] ++ boxO (w.heap.size + 1) [_, _, _, _, _, _, _, _, _, _, _] :: _) from J.out).c11c
        refine hK.out _ _ sk (fun hHeld2 => ?_)
        clear hK K hHeld
        have hHeld := hHeld2
        clear hHeld2
        try simp only [Act.put, List.setIfInBounds_toArray, List.set_cons_zero, List.set_cons_succ]
        refine wpAnyH_ready (rs := [3, 5]) (by kernel_rfl) (by simp) (AllReadyH.cons (o := ({ dst := some 13, op := Go.Op.call { callee := Go.Callee.value (Go.Operand.func 35), args := #[Go.Operand.tmp 12], argTypes := #[28] }, type := 28, pos := "ref.go:65", after := #[{ on := 2, ground := Go.Ground.data }, { on := 1, ground := Go.Ground.chain }], guard := none } : Oper)) rfl (fun K hK => ?_) (AllReadyH.cons (o := ({ dst := some 7, op := Go.Op.alloc 28, type := 0, pos := "ref.go:65", after := #[], guard := none } : Oper)) rfl (fun K hK => ?_) AllReadyH.nil))
        · go_simp
          refine (CC2 _ J.out.below).out.mono ?_
          rintro e u3 ⟨M4, vb4, vd4, vo4, vi4, vc4, rfl, hL4, hho⟩
          have HL4 := Lib.hid (hL4.trans HE2.out)
          have hst := rowsO_st HL4.out hho
          obtain ⟨A4, c4, hv1, -, -⟩ := hst.bf.shape
          obtain ⟨Ad4, cd4, hv2, -, -⟩ := hst.dm.shape
          obtain ⟨Ao4, co4, hv3, -, -⟩ := hst.op.shape
          obtain ⟨Ai4, ci4, hv4, -, -⟩ := hst.ip.shape
          obtain ⟨Ac4, cc4, hv5, -, -⟩ := hst.cb.shape
          have hlen4 : M4.length = n2 := by rw [← HN2.out, ← List.length_map, HL4.out]
          rw [hlen4] at hv1
          subst hv1 hv2 hv3 hv4 hv5
          replace J := Lib.hid (J.out.bundle hho)
          generalize u2.heap.size = b4 at *
          clear hho hL4 hst sk hlen4
          have sk := And.intro (show HO w _ ([_, _, _, _, _, _] ++ boxO w.heap.size [_, _, _, _, _, _, _, _, _, _, _] :: _) from J.out).c11c (show HO w _ ([_, _, _, _, _] ++ boxO (w.heap.size + 1) [_, _, _, _, _, _, _, _, _, _, _] :: _) from J.out).c11c
          refine hK.out _ _ sk (fun hHeld2 => ?_)
          clear hK K hHeld
          have hHeld := hHeld2
          clear hHeld2
          try simp only [Act.put, List.setIfInBounds_toArray, List.set_cons_zero, List.set_cons_succ]
          refine wpAnyH_ready (rs := [5]) (by kernel_rfl) (by simp) (AllReadyH.cons (o := ({ dst := some 7, op := Go.Op.alloc 28, type := 0, pos := "ref.go:65", after := #[], guard := none } : Oper)) rfl (fun K hK => ?_) AllReadyH.nil)
          go_simp
          replace J := Lib.hid (J.out.alloc [.int .i64 0, .slice none 0 0, .int .i64 0, .int .i64 0, .slice none 0 0, .slice none 0 0, .bool false, .slice none 0 0, .int .i64 0, .int .i64 0, .slice none 0 0] 28)
          generalize u3.alloc (.cells #[.int .i64 0, .slice none 0 0, .int .i64 0, .int .i64 0, .slice none 0 0, .slice none 0 0, .bool false, .slice none 0 0, .int .i64 0, .int .i64 0, .slice none 0 0] 28) = u4 at *
          generalize u3.heap.size = k7 at *
          clear sk
          have sk := And.intro (show HO w _ ([_, _, _, _, _, _, _] ++ boxO w.heap.size [_, _, _, _, _, _, _, _, _, _, _] :: _) from J.out).c11c (show HO w _ ([_, _, _, _, _, _] ++ boxO (w.heap.size + 1) [_, _, _, _, _, _, _, _, _, _, _] :: _) from J.out).c11c
          refine hK.out _ _ sk (fun hHeld2 => ?_)
          clear hK K hHeld
          have hHeld := hHeld2
          clear hHeld2
          try simp only [Act.put, List.setIfInBounds_toArray, List.set_cons_zero, List.set_cons_succ]
          refine wpAnyH_ready (rs := [6]) (by kernel_rfl) (by simp) (AllReadyH.cons (o := ({ dst := none, op := Go.Op.store 28 (Go.Operand.tmp 6) (Go.Operand.tmp 11), type := 0, pos := "ref.go:65", after := #[{ on := 4, ground := Go.Ground.data }, { on := 1, ground := Go.Ground.data }, { on := 3, ground := Go.Ground.chain }, { on := 0, ground := Go.Ground.phase }, { on := 1, ground := Go.Ground.phase }, { on := 2, ground := Go.Ground.textOnly Go.Departure.lateStores }, { on := 3, ground := Go.Ground.textOnly Go.Departure.lateStoresUnsure }, { on := 4, ground := Go.Ground.phase }, { on := 5, ground := Go.Ground.phase }], guard := none } : Oper)) rfl (fun K hK => ?_) AllReadyH.nil)
          obtain ⟨q0, q1, q2, q3, q4, q5, q6, q7, q8, q9, q10, qf, ql⟩ := (show HO w u4 ([_, _] ++ boxO k6 [_, _, _, _, _, _, _, _, _, _, _] :: _) from J.out).c11
          go_simp
          replace J := Lib.hid ((show HO w u4 ([_, _] ++ boxO k6 [_, _, _, _, _, _, _, _, _, _, _] :: _) from J.out).set11 (.int .i64 c.set) (.slice A3 n1 c3) (.int .i64 c.sc) (.int .i64 c.tr) (.slice Ad3 c.dm.length cd3) (.slice Ao3 c.op.length co3) (.bool c.is) (.slice Ai3 c.ip.length ci3) (.int .i64 c.dx) (.int .i64 c.dy) (.slice Ac3 c.cb.length cc3))
          generalize ((((((((((u4.setCell ⟨k6, 0, none⟩ (.int .i64 c.set)).setCell ⟨k6, 1, none⟩ (.slice A3 n1 c3)).setCell ⟨k6, 2, none⟩ (.int .i64 c.sc)).setCell ⟨k6, 3, none⟩ (.int .i64 c.tr)).setCell ⟨k6, 4, none⟩ (.slice Ad3 c.dm.length cd3)).setCell ⟨k6, 5, none⟩ (.slice Ao3 c.op.length co3)).setCell ⟨k6, 6, none⟩ (.bool c.is)).setCell ⟨k6, 7, none⟩ (.slice Ai3 c.ip.length ci3)).setCell ⟨k6, 8, none⟩ (.int .i64 c.dx)).setCell ⟨k6, 9, none⟩ (.int .i64 c.dy)).setCell ⟨k6, 10, none⟩ (.slice Ac3 c.cb.length cc3) = u5 at *
          clear q0 q1 q2 q3 q4 q5 q6 q7 q8 q9 q10 qf ql sk
          have sk := And.intro (show HO w _ ([_, _, _, _, _, _, _] ++ boxO w.heap.size [_, _, _, _, _, _, _, _, _, _, _] :: _) from J.out).c11c (show HO w _ ([_, _, _, _, _, _] ++ boxO (w.heap.size + 1) [_, _, _, _, _, _, _, _, _, _, _] :: _) from J.out).c11c
          refine hK.out _ _ sk (fun hHeld2 => ?_)
          clear hK K hHeld
          have hHeld := hHeld2
          clear hHeld2
          try simp only [Act.put, List.setIfInBounds_toArray, List.set_cons_zero, List.set_cons_succ]
          refine wpAnyH_ready (rs := [7]) (by kernel_rfl) (by simp) (AllReadyH.cons (o := ({ dst := none, op := Go.Op.store 28 (Go.Operand.tmp 7) (Go.Operand.tmp 13), type := 0, pos := "ref.go:65", after := #[{ on := 5, ground := Go.Ground.data }, { on := 3, ground := Go.Ground.data }, { on := 6, ground := Go.Ground.chain }, { on := 0, ground := Go.Ground.phase }, { on := 1, ground := Go.Ground.phase }, { on := 2, ground := Go.Ground.phase }, { on := 3, ground := Go.Ground.phase }, { on := 4, ground := Go.Ground.phase }, { on := 5, ground := Go.Ground.phase }, { on := 6, ground := Go.Ground.phase }], guard := none } : Oper)) rfl (fun K hK => ?_) AllReadyH.nil)
          obtain ⟨q0, q1, q2, q3, q4, q5, q6, q7, q8, q9, q10, qf, ql⟩ := (show HO w u5 ([] ++ boxO k7 [_, _, _, _, _, _, _, _, _, _, _] :: _) from J.out).c11
          go_simp
          replace J := Lib.hid ((show HO w u5 ([] ++ boxO k7 [_, _, _, _, _, _, _, _, _, _, _] :: _) from J.out).set11 (.int .i64 p.set) (.slice A4 n2 c4) (.int .i64 p.sc) (.int .i64 p.tr) (.slice Ad4 p.dm.length cd4) (.slice Ao4 p.op.length co4) (.bool p.is) (.slice Ai4 p.ip.length ci4) (.int .i64 p.dx) (.int .i64 p.dy) (.slice Ac4 p.cb.length cc4))
          generalize ((((((((((u5.setCell ⟨k7, 0, none⟩ (.int .i64 p.set)).setCell ⟨k7, 1, none⟩ (.slice A4 n2 c4)).setCell ⟨k7, 2, none⟩ (.int .i64 p.sc)).setCell ⟨k7, 3, none⟩ (.int .i64 p.tr)).setCell ⟨k7, 4, none⟩ (.slice Ad4 p.dm.length cd4)).setCell ⟨k7, 5, none⟩ (.slice Ao4 p.op.length co4)).setCell ⟨k7, 6, none⟩ (.bool p.is)).setCell ⟨k7, 7, none⟩ (.slice Ai4 p.ip.length ci4)).setCell ⟨k7, 8, none⟩ (.int .i64 p.dx)).setCell ⟨k7, 9, none⟩ (.int .i64 p.dy)).setCell ⟨k7, 10, none⟩ (.slice Ac4 p.cb.length cc4) = u6 at *
          clear q0 q1 q2 q3 q4 q5 q6 q7 q8 q9 q10 qf ql sk
          have sk := And.intro (show HO w _ ([_, _, _, _, _, _, _] ++ boxO w.heap.size [_, _, _, _, _, _, _, _, _, _, _] :: _) from J.out).c11c (show HO w _ ([_, _, _, _, _, _] ++ boxO (w.heap.size + 1) [_, _, _, _, _, _, _, _, _, _, _] :: _) from J.out).c11c
          refine hK.out _ _ sk (fun hHeld2 => ?_)
          clear hK K hHeld
          have hHeld := hHeld2
          clear hHeld2
          try simp only [Act.put, List.setIfInBounds_toArray, List.set_cons_zero, List.set_cons_succ]
          refine wpAnyH_done (by kernel_rfl) ?_ _
          clear sk
          replace J := Lib.hid (show HO w _ ([_] ++ _ :: _) from J.out).front
          replace J := Lib.hid (show HO w _ ([_, _, _, _] ++ _ :: _) from J.out).front
          replace J := Lib.hid (show HO w _ ([_, _, _, _] ++ _ :: _) from J.out).front
          replace J := Lib.hid (show HO w _ ([_, _, _] ++ _ :: _) from J.out).front
          replace J := Lib.hid (show HO w _ ([_, _, _, _] ++ _ :: _) from J.out).front
          go_wp2_with fail
          go_meet
          case rel => exact ⟨k6, k7, b3, b4, M3, M4, A3, c3, Ad3, cd3, Ao3, co3, Ai3, ci3, Ac3, cc3, A4, c4, Ad4, cd4, Ao4, co4, Ai4, ci4, Ac4, cc4, rfl, rfl, Lib.hid ⟨HL3.out, HL4.out⟩, J⟩
        · go_simp
          replace J := Lib.hid (J.out.alloc [.int .i64 0, .slice none 0 0, .int .i64 0, .int .i64 0, .slice none 0 0, .slice none 0 0, .bool false, .slice none 0 0, .int .i64 0, .int .i64 0, .slice none 0 0] 28)
          generalize u2.alloc (.cells #[.int .i64 0, .slice none 0 0, .int .i64 0, .int .i64 0, .slice none 0 0, .slice none 0 0, .bool false, .slice none 0 0, .int .i64 0, .int .i64 0, .slice none 0 0] 28) = u3 at *
          generalize u2.heap.size = k7 at *
          clear sk
          have sk := And.intro (show HO w _ ([_, _, _, _, _, _] ++ boxO w.heap.size [_, _, _, _, _, _, _, _, _, _, _] :: _) from J.out).c11c (show HO w _ ([_, _, _, _, _] ++ boxO (w.heap.size + 1) [_, _, _, _, _, _, _, _, _, _, _] :: _) from J.out).c11c
          refine hK.out _ _ sk (fun hHeld2 => ?_)
          clear hK K hHeld
          have hHeld := hHeld2
          clear hHeld2
          try simp only [Act.put, List.setIfInBounds_toArray, List.set_cons_zero, List.set_cons_succ]
          refine wpAnyH_ready (rs := [3]) (by kernel_rfl) (by simp) (AllReadyH.cons (o := ({ dst := some 13, op := Go.Op.call { callee := Go.Callee.value (Go.Operand.func 35), args := #[Go.Operand.tmp 12], argTypes := #[28] }, type := 28, pos := "ref.go:65", after := #[{ on := 2, ground := Go.Ground.data }, { on := 1, ground := Go.Ground.chain }], guard := none } : Oper)) rfl (fun K hK => ?_) AllReadyH.nil)
          go_simp
          refine (CC2 _ J.out.below).out.mono ?_
          rintro e u4 ⟨M4, vb4, vd4, vo4, vi4, vc4, rfl, hL4, hho⟩
          have HL4 := Lib.hid (hL4.trans HE2.out)
          have hst := rowsO_st HL4.out hho
          obtain ⟨A4, c4, hv1, -, -⟩ := hst.bf.shape
          obtain ⟨Ad4, cd4, hv2, -, -⟩ := hst.dm.shape
          obtain ⟨Ao4, co4, hv3, -, -⟩ := hst.op.shape
          obtain ⟨Ai4, ci4, hv4, -, -⟩ := hst.ip.shape
          obtain ⟨Ac4, cc4, hv5, -, -⟩ := hst.cb.shape
          have hlen4 : M4.length = n2 := by rw [← HN2.out, ← List.length_map, HL4.out]
          rw [hlen4] at hv1
          subst hv1 hv2 hv3 hv4 hv5
          replace J := Lib.hid (J.out.bundle hho)
          generalize u3.heap.size = b4 at *
          clear hho hL4 hst sk hlen4
          have sk := And.intro (show HO w _ ([_, _, _, _, _, _, _] ++ boxO w.heap.size [_, _, _, _, _, _, _, _, _, _, _] :: _) from J.out).c11c (show HO w _ ([_, _, _, _, _, _] ++ boxO (w.heap.size + 1) [_, _, _, _, _, _, _, _, _, _, _] :: _) from J.out).c11c
          refine hK.out _ _ sk (fun hHeld2 => ?_)
          clear hK K hHeld
          have hHeld := hHeld2
          clear hHeld2
          try simp only [Act.put, List.setIfInBounds_toArray, List.set_cons_zero, List.set_cons_succ]
          refine wpAnyH_ready (rs := [6]) (by kernel_rfl) (by simp) (AllReadyH.cons (o := ({ dst := none, op := Go.Op.store 28 (Go.Operand.tmp 6) (Go.Operand.tmp 11), type := 0, pos := "ref.go:65", after := #[{ on := 4, ground := Go.Ground.data }, { on := 1, ground := Go.Ground.data }, { on := 3, ground := Go.Ground.chain }, { on := 0, ground := Go.Ground.phase }, { on := 1, ground := Go.Ground.phase }, { on := 2, ground := Go.Ground.textOnly Go.Departure.lateStores }, { on := 3, ground := Go.Ground.textOnly Go.Departure.lateStoresUnsure }, { on := 4, ground := Go.Ground.phase }, { on := 5, ground := Go.Ground.phase }], guard := none } : Oper)) rfl (fun K hK => ?_) AllReadyH.nil)
          obtain ⟨q0, q1, q2, q3, q4, q5, q6, q7, q8, q9, q10, qf, ql⟩ := (show HO w u4 ([_, _] ++ boxO k6 [_, _, _, _, _, _, _, _, _, _, _] :: _) from J.out).c11
          go_simp
          replace J := Lib.hid ((show HO w u4 ([_, _] ++ boxO k6 [_, _, _, _, _, _, _, _, _, _, _] :: _) from J.out).set11 (.int .i64 c.set) (.slice A3 n1 c3) (.int .i64 c.sc) (.int .i64 c.tr) (.slice Ad3 c.dm.length cd3) (.slice Ao3 c.op.length co3) (.bool c.is) (.slice Ai3 c.ip.length ci3) (.int .i64 c.dx) (.int .i64 c.dy) (.slice Ac3 c.cb.length cc3))
          generalize ((((((((((u4.setCell ⟨k6, 0, none⟩ (.int .i64 c.set)).setCell ⟨k6, 1, none⟩ (.slice A3 n1 c3)).setCell ⟨k6, 2, none⟩ (.int .i64 c.sc)).setCell ⟨k6, 3, none⟩ (.int .i64 c.tr)).setCell ⟨k6, 4, none⟩ (.slice Ad3 c.dm.length cd3)).setCell ⟨k6, 5, none⟩ (.slice Ao3 c.op.length co3)).setCell ⟨k6, 6, none⟩ (.bool c.is)).setCell ⟨k6, 7, none⟩ (.slice Ai3 c.ip.length ci3)).setCell ⟨k6, 8, none⟩ (.int .i64 c.dx)).setCell ⟨k6, 9, none⟩ (.int .i64 c.dy)).setCell ⟨k6, 10, none⟩ (.slice Ac3 c.cb.length cc3) = u5 at *
          clear q0 q1 q2 q3 q4 q5 q6 q7 q8 q9 q10 qf ql sk
          have sk := And.intro (show HO w _ ([_, _, _, _, _, _, _] ++ boxO w.heap.size [_, _, _, _, _, _, _, _, _, _, _] :: _) from J.out).c11c (show HO w _ ([_, _, _, _, _, _] ++ boxO (w.heap.size + 1) [_, _, _, _, _, _, _, _, _, _, _] :: _) from J.out).c11c
          refine hK.out _ _ sk (fun hHeld2 => ?_)
          clear hK K hHeld
          have hHeld := hHeld2
          clear hHeld2
          try simp only [Act.put, List.setIfInBounds_toArray, List.set_cons_zero, List.set_cons_succ]
          refine wpAnyH_ready (rs := [7]) (by kernel_rfl) (by simp) (AllReadyH.cons (o := ({ dst := none, op := Go.Op.store 28 (Go.Operand.tmp 7) (Go.Operand.tmp 13), type := 0, pos := "ref.go:65", after := #[{ on := 5, ground := Go.Ground.data }, { on := 3, ground := Go.Ground.data }, { on := 6, ground := Go.Ground.chain }, { on := 0, ground := Go.Ground.phase }, { on := 1, ground := Go.Ground.phase }, { on := 2, ground := Go.Ground.phase }, { on := 3, ground := Go.Ground.phase }, { on := 4, ground := Go.Ground.phase }, { on := 5, ground := Go.Ground.phase }, { on := 6, ground := Go.Ground.phase }], guard := none } : Oper)) rfl (fun K hK => ?_) AllReadyH.nil)
          obtain ⟨q0, q1, q2, q3, q4, q5, q6, q7, q8, q9, q10, qf, ql⟩ := (show HO w u5 ([_] ++ boxO k7 [_, _, _, _, _, _, _, _, _, _, _] :: _) from J.out).c11
          go_simp
          replace J := Lib.hid ((show HO w u5 ([_] ++ boxO k7 [_, _, _, _, _, _, _, _, _, _, _] :: _) from J.out).set11 (.int .i64 p.set) (.slice A4 n2 c4) (.int .i64 p.sc) (.int .i64 p.tr) (.slice Ad4 p.dm.length cd4) (.slice Ao4 p.op.length co4) (.bool p.is) (.slice Ai4 p.ip.length ci4) (.int .i64 p.dx) (.int .i64 p.dy) (.slice Ac4 p.cb.length cc4))
          generalize ((((((((((u5.setCell ⟨k7, 0, none⟩ (.int .i64 p.set)).setCell ⟨k7, 1, none⟩ (.slice A4 n2 c4)).setCell ⟨k7, 2, none⟩ (.int .i64 p.sc)).setCell ⟨k7, 3, none⟩ (.int .i64 p.tr)).setCell ⟨k7, 4, none⟩ (.slice Ad4 p.dm.length cd4)).setCell ⟨k7, 5, none⟩ (.slice Ao4 p.op.length co4)).setCell ⟨k7, 6, none⟩ (.bool p.is)).setCell ⟨k7, 7, none⟩ (.slice Ai4 p.ip.length ci4)).setCell ⟨k7, 8, none⟩ (.int .i64 p.dx)).setCell ⟨k7, 9, none⟩ (.int .i64 p.dy)).setCell ⟨k7, 10, none⟩ (.slice Ac4 p.cb.length cc4) = u6 at *
          clear q0 q1 q2 q3 q4 q5 q6 q7 q8 q9 q10 qf ql sk
          have sk := And.intro (show HO w _ ([_, _, _, _, _, _, _] ++ boxO w.heap.size [_, _, _, _, _, _, _, _, _, _, _] :: _) from J.out).c11c (show HO w _ ([_, _, _, _, _, _] ++ boxO (w.heap.size + 1) [_, _, _, _, _, _, _, _, _, _, _] :: _) from J.out).c11c
          refine hK.out _ _ sk (fun hHeld2 => ?_)
          clear hK K hHeld
          have hHeld := hHeld2
          clear hHeld2
          try simp only [Act.put, List.setIfInBounds_toArray, List.set_cons_zero, List.set_cons_succ]
          refine wpAnyH_done (by kernel_rfl) ?_ _
          clear sk
          replace J := Lib.hid (show HO w _ ([_, _, _, _] ++ _ :: _) from J.out).front
          replace J := Lib.hid (show HO w _ ([_, _, _, _] ++ _ :: _) from J.out).front
          replace J := Lib.hid (show HO w _ ([_, _, _] ++ _ :: _) from J.out).front
          replace J := Lib.hid (show HO w _ ([_, _, _, _] ++ _ :: _) from J.out).front
          go_wp2_with fail
          go_meet
          case rel => exact ⟨k6, k7, b3, b4, M3, M4, A3, c3, Ad3, cd3, Ao3, co3, Ai3, ci3, Ac3, cc3, A4, c4, Ad4, cd4, Ao4, co4, Ai4, ci4, Ac4, cc4, rfl, rfl, Lib.hid ⟨HL3.out, HL4.out⟩, J⟩
      · go_simp
        replace J := Lib.hid (J.out.alloc [.int .i64 0, .slice none 0 0, .int .i64 0, .int .i64 0, .slice none 0 0, .slice none 0 0, .bool false, .slice none 0 0, .int .i64 0, .int .i64 0, .slice none 0 0] 28)
        generalize u1.alloc (.cells #[.int .i64 0, .slice none 0 0, .int .i64 0, .int .i64 0, .slice none 0 0, .slice none 0 0, .bool false, .slice none 0 0, .int .i64 0, .int .i64 0, .slice none 0 0] 28) = u2 at *
        generalize u1.heap.size = k7 at *
        clear sk
        have sk := And.intro (show HO w _ ([_, _, _, _, _] ++ boxO w.heap.size [_, _, _, _, _, _, _, _, _, _, _] :: _) from J.out).c11c (show HO w _ ([_, _, _, _] ++ boxO (w.heap.size + 1) [_, _, _, _, _, _, _, _, _, _, _] :: _) from J.out).c11c
        refine hK.out _ _ sk (fun hHeld2 => ?_)
        clear hK K hHeld
        have hHeld := hHeld2
        clear hHeld2
        try simp only [Act.put, List.setIfInBounds_toArray, List.set_cons_zero, List.set_cons_succ]
        refine wpAnyH_ready (rs := [3, 4]) (by kernel_rfl) (by simp) (AllReadyH.cons (o := ({ dst := some 13, op := Go.Op.call { callee := Go.Callee.value (Go.Operand.func 35), args := #[Go.Operand.tmp 12], argTypes := #[28] }, type := 28, pos := "ref.go:65", after := #[{ on := 2, ground := Go.Ground.data }, { on := 1, ground := Go.Ground.chain }], guard := none } : Oper)) rfl (fun K hK => ?_) (AllReadyH.cons (o := ({ dst := some 6, op := Go.Op.alloc 28, type := 0, pos := "ref.go:65", after := #[], guard := none } : Oper)) rfl (fun K hK => ?_) AllReadyH.nil))
        · go_simp
          refine (CC2 _ J.out.below).out.mono ?_
          rintro e u3 ⟨M4, vb4, vd4, vo4, vi4, vc4, rfl, hL4, hho⟩
          have HL4 := Lib.hid (hL4.trans HE2.out)
          have hst := rowsO_st HL4.out hho
          obtain ⟨A4, c4, hv1, -, -⟩ := hst.bf.shape
          obtain ⟨Ad4, cd4, hv2, -, -⟩ := hst.dm.shape
          obtain ⟨Ao4, co4, hv3, -, -⟩ := hst.op.shape
          obtain ⟨Ai4, ci4, hv4, -, -⟩ := hst.ip.shape
          obtain ⟨Ac4, cc4, hv5, -, -⟩ := hst.cb.shape
          have hlen4 : M4.length = n2 := by rw [← HN2.out, ← List.length_map, HL4.out]
          rw [hlen4] at hv1
          subst hv1 hv2 hv3 hv4 hv5
          replace J := Lib.hid (J.out.bundle hho)
          generalize u2.heap.size = b4 at *
          clear hho hL4 hst sk hlen4
          have sk := And.intro (show HO w _ ([_, _, _, _, _, _] ++ boxO w.heap.size [_, _, _, _, _, _, _, _, _, _, _] :: _) from J.out).c11c (show HO w _ ([_, _, _, _, _] ++ boxO (w.heap.size + 1) [_, _, _, _, _, _, _, _, _, _, _] :: _) from J.out).c11c
          refine hK.out _ _ sk (fun hHeld2 => ?_)
          clear hK K hHeld
          have hHeld := hHeld2
          clear hHeld2
          try simp only [Act.put, List.setIfInBounds_toArray, List.set_cons_zero, List.set_cons_succ]
          refine wpAnyH_ready (rs := [4]) (by kernel_rfl) (by simp) (AllReadyH.cons (o := ({ dst := some 6, op := Go.Op.alloc 28, type := 0, pos := "ref.go:65", after := #[], guard := none } : Oper)) rfl (fun K hK => ?_) AllReadyH.nil)
          go_simp
          replace J := Lib.hid (J.out.alloc [.int .i64 0, .slice none 0 0, .int .i64 0, .int .i64 0, .slice none 0 0, .slice none 0 0, .bool false, .slice none 0 0, .int .i64 0, .int .i64 0, .slice none 0 0] 28)
          generalize u3.alloc (.cells #[.int .i64 0, .slice none 0 0, .int .i64 0, .int .i64 0, .slice none 0 0, .slice none 0 0, .bool false, .slice none 0 0, .int .i64 0, .int .i64 0, .slice none 0 0] 28) = u4 at *
          generalize u3.heap.size = k6 at *
          clear sk
          have sk := And.intro (show HO w _ ([_, _, _, _, _, _, _] ++ boxO w.heap.size [_, _, _, _, _, _, _, _, _, _, _] :: _) from J.out).c11c (show HO w _ ([_, _, _, _, _, _] ++ boxO (w.heap.size + 1) [_, _, _, _, _, _, _, _, _, _, _] :: _) from J.out).c11c
          refine hK.out _ _ sk (fun hHeld2 => ?_)
          clear hK K hHeld
          have hHeld := hHeld2
          clear hHeld2
          try simp only [Act.put, List.setIfInBounds_toArray, List.set_cons_zero, List.set_cons_succ]
          refine wpAnyH_ready (rs := [6]) (by kernel_rfl) (by simp) (AllReadyH.cons (o := ({ dst := none, op := Go.Op.store 28 (Go.Operand.tmp 6) (Go.Operand.tmp 11), type := 0, pos := "ref.go:65", after := #[{ on := 4, ground := Go.Ground.data }, { on := 1, ground := Go.Ground.data }, { on := 3, ground := Go.Ground.chain }, { on := 0, ground := Go.Ground.phase }, { on := 1, ground := Go.Ground.phase }, { on := 2, ground := Go.Ground.textOnly Go.Departure.lateStores }, { on := 3, ground := Go.Ground.textOnly Go.Departure.lateStoresUnsure }, { on := 4, ground := Go.Ground.phase }, { on := 5, ground := Go.Ground.phase }], guard := none } : Oper)) rfl (fun K hK => ?_) AllReadyH.nil)
          obtain ⟨q0, q1, q2, q3, q4, q5, q6, q7, q8, q9, q10, qf, ql⟩ := (show HO w u4 ([] ++ boxO k6 [_, _, _, _, _, _, _, _, _, _, _] :: _) from J.out).c11
          go_simp
          replace J := Lib.hid ((show HO w u4 ([] ++ boxO k6 [_, _, _, _, _, _, _, _, _, _, _] :: _) from J.out).set11 (.int .i64 c.set) (.slice A3 n1 c3) (.int .i64 c.sc) (.int .i64 c.tr) (.slice Ad3 c.dm.length cd3) (.slice Ao3 c.op.length co3) (.bool c.is) (.slice Ai3 c.ip.length ci3) (.int .i64 c.dx) (.int .i64 c.dy) (.slice Ac3 c.cb.length cc3))
          generalize ((((((((((u4.setCell ⟨k6, 0, none⟩ (.int .i64 c.set)).setCell ⟨k6, 1, none⟩ (.slice A3 n1 c3)).setCell ⟨k6, 2, none⟩ (.int .i64 c.sc)).setCell ⟨k6, 3, none⟩ (.int .i64 c.tr)).setCell ⟨k6, 4, none⟩ (.slice Ad3 c.dm.length cd3)).setCell ⟨k6, 5, none⟩ (.slice Ao3 c.op.length co3)).setCell ⟨k6, 6, none⟩ (.bool c.is)).setCell ⟨k6, 7, none⟩ (.slice Ai3 c.ip.length ci3)).setCell ⟨k6, 8, none⟩ (.int .i64 c.dx)).setCell ⟨k6, 9, none⟩ (.int .i64 c.dy)).setCell ⟨k6, 10, none⟩ (.slice Ac3 c.cb.length cc3) = u5 at *
          clear q0 q1 q2 q3 q4 q5 q6 q7 q8 q9 q10 qf ql sk
          have sk := And.intro (show HO w _ ([_, _, _, _, _, _, _] ++ boxO w.heap.size [_, _, _, _, _, _, _, _, _, _, _] :: _) from J.out).c11c (show HO w _ ([_, _, _, _, _, _] ++ boxO (w.heap.size + 1) [_, _, _, _, _, _, _, _, _, _, _] :: _) from J.out).c11c
          refine hK.out _ _ sk (fun hHeld2 => ?_)
          clear hK K hHeld
          have hHeld := hHeld2
          clear hHeld2
          try simp only [Act.put, List.setIfInBounds_toArray, List.set_cons_zero, List.set_cons_succ]
          refine wpAnyH_ready (rs := [7]) (by kernel_rfl) (by simp) (AllReadyH.cons (o := ({ dst := none, op := Go.Op.store 28 (Go.Operand.tmp 7) (Go.Operand.tmp 13), type := 0, pos := "ref.go:65", after := #[{ on := 5, ground := Go.Ground.data }, { on := 3, ground := Go.Ground.data }, { on := 6, ground := Go.Ground.chain }, { on := 0, ground := Go.Ground.phase }, { on := 1, ground := Go.Ground.phase }, { on := 2, ground := Go.Ground.phase }, { on := 3, ground := Go.Ground.phase }, { on := 4, ground := Go.Ground.phase }, { on := 5, ground := Go.Ground.phase }, { on := 6, ground := Go.Ground.phase }], guard := none } : Oper)) rfl (fun K hK => ?_) AllReadyH.nil)
          obtain ⟨q0, q1, q2, q3, q4, q5, q6, q7, q8, q9, q10, qf, ql⟩ := (show HO w u5 ([_, _] ++ boxO k7 [_, _, _, _, _, _, _, _, _, _, _] :: _) from J.out).c11
          go_simp
          replace J := Lib.hid ((show HO w u5 ([_, _] ++ boxO k7 [_, _, _, _, _, _, _, _, _, _, _] :: _) from J.out).set11 (.int .i64 p.set) (.slice A4 n2 c4) (.int .i64 p.sc) (.int .i64 p.tr) (.slice Ad4 p.dm.length cd4) (.slice Ao4 p.op.length co4) (.bool p.is) (.slice Ai4 p.ip.length ci4) (.int .i64 p.dx) (.int .i64 p.dy) (.slice Ac4 p.cb.length cc4))
          generalize ((((((((((u5.setCell ⟨k7, 0, none⟩ (.int .i64 p.set)).setCell ⟨k7, 1, none⟩ (.slice A4 n2 c4)).setCell ⟨k7, 2, none⟩ (.int .i64 p.sc)).setCell ⟨k7, 3, none⟩ (.int .i64 p.tr)).setCell ⟨k7, 4, none⟩ (.slice Ad4 p.dm.length cd4)).setCell ⟨k7, 5, none⟩ (.slice Ao4 p.op.length co4)).setCell ⟨k7, 6, none⟩ (.bool p.is)).setCell ⟨k7, 7, none⟩ (.slice Ai4 p.ip.length ci4)).setCell ⟨k7, 8, none⟩ (.int .i64 p.dx)).setCell ⟨k7, 9, none⟩ (.int .i64 p.dy)).setCell ⟨k7, 10, none⟩ (.slice Ac4 p.cb.length cc4) = u6 at *
          clear q0 q1 q2 q3 q4 q5 q6 q7 q8 q9 q10 qf ql sk
          have sk := And.intro (show HO w _ ([_, _, _, _, _, _, _] ++ boxO w.heap.size [_, _, _, _, _, _, _, _, _, _, _] :: _) from J.out).c11c (show HO w _ ([_, _, _, _, _, _] ++ boxO (w.heap.size + 1) [_, _, _, _, _, _, _, _, _, _, _] :: _) from J.out).c11c
          refine hK.out _ _ sk (fun hHeld2 => ?_)
          clear hK K hHeld
          have hHeld := hHeld2
          clear hHeld2
          try simp only [Act.put, List.setIfInBounds_toArray, List.set_cons_zero, List.set_cons_succ]
          refine wpAnyH_done (by kernel_rfl) ?_ _
          clear sk
          replace J := Lib.hid (show HO w _ ([_] ++ _ :: _) from J.out).front
          replace J := Lib.hid (show HO w _ ([_, _, _, _] ++ _ :: _) from J.out).front
          replace J := Lib.hid (show HO w _ ([_, _, _, _] ++ _ :: _) from J.out).front
          replace J := Lib.hid (show HO w _ ([_, _, _, _] ++ _ :: _) from J.out).front
          replace J := Lib.hid (show HO w _ ([_, _, _, _] ++ _ :: _) from J.out).front
          go_wp2_with fail
          go_meet
          case rel => exact ⟨k6, k7, b3, b4, M3, M4, A3, c3, Ad3, cd3, Ao3, co3, Ai3, ci3, Ac3, cc3, A4, c4, Ad4, cd4, Ao4, co4, Ai4, ci4, Ac4, cc4, rfl, rfl, Lib.hid ⟨HL3.out, HL4.out⟩, J⟩
        · go_simp
          replace J := Lib.hid (J.out.alloc [.int .i64 0, .slice none 0 0, .int .i64 0, .int .i64 0, .slice none 0 0, .slice none 0 0, .bool false, .slice none 0 0, .int .i64 0, .int .i64 0, .slice none 0 0] 28)
          generalize u2.alloc (.cells #[.int .i64 0, .slice none 0 0, .int .i64 0, .int .i64 0, .slice none 0 0, .slice none 0 0, .bool false, .slice none 0 0, .int .i64 0, .int .i64 0, .slice none 0 0] 28) = u3 at *
          generalize u2.heap.size = k6 at *
          clear sk
          have sk := And.intro (show HO w _ ([_, _, _, _, _, _] ++ boxO w.heap.size [_, _, _, _, _, _, _, _, _, _, _] :: _) from J.out).c11c (show HO w _ ([_, _, _, _, _] ++ boxO (w.heap.size + 1) [_, _, _, _, _, _, _, _, _, _, _] :: _) from J.out).c11c
          refine hK.out _ _ sk (fun hHeld2 => ?_)
          clear hK K hHeld
          have hHeld := hHeld2
          clear hHeld2
          try simp only [Act.put, List.setIfInBounds_toArray, List.set_cons_zero, List.set_cons_succ]
          refine wpAnyH_ready (rs := [3]) (by kernel_rfl) (by simp) (AllReadyH.cons (o := ({ dst := some 13, op := Go.Op.call { callee := Go.Callee.value (Go.Operand.func 35), args := #[Go.Operand.tmp 12], argTypes := #[28] }, type := 28, pos := "ref.go:65", after := #[{ on := 2, ground := Go.Ground.data }, { on := 1, ground := Go.Ground.chain }], guard := none } : Oper)) rfl (fun K hK => ?_) AllReadyH.nil)
          go_simp
          refine (CC2 _ J.out.below).out.mono ?_
          rintro e u4 ⟨M4, vb4, vd4, vo4, vi4, vc4, rfl, hL4, hho⟩
          have HL4 := Lib.hid (hL4.trans HE2.out)
          have hst := rowsO_st HL4.out hho
          obtain ⟨A4, c4, hv1, -, -⟩ := hst.bf.shape
          obtain ⟨Ad4, cd4, hv2, -, -⟩ := hst.dm.shape
          obtain ⟨Ao4, co4, hv3, -, -⟩ := hst.op.shape
          obtain ⟨Ai4, ci4, hv4, -, -⟩ := hst.ip.shape
          obtain ⟨Ac4, cc4, hv5, -, -⟩ := hst.cb.shape
          have hlen4 : M4.length = n2 := by rw [← HN2.out, ← List.length_map, HL4.out]
          rw [hlen4] at hv1
          subst hv1 hv2 hv3 hv4 hv5
          replace J := Lib.hid (J.out.bundle hho)
          generalize u3.heap.size = b4 at *
          clear hho hL4 hst sk hlen4
          have sk := And.intro (show HO w _ ([_, _, _, _, _, _, _] ++ boxO w.heap.size [_, _, _, _, _, _, _, _, _, _, _] :: _) from J.out).c11c (show HO w _ ([_, _, _, _, _, _] ++ boxO (w.heap.size + 1) [_, _, _, _, _, _, _, _, _, _, _] :: _) from J.out).c11c
          refine hK.out _ _ sk (fun hHeld2 => ?_)
          clear hK K hHeld
          have hHeld := hHeld2
          clear hHeld2
          try simp only [Act.put, List.setIfInBounds_toArray, List.set_cons_zero, List.set_cons_succ]
          refine wpAnyH_ready (rs := [6]) (by kernel_rfl) (by simp) (AllReadyH.cons (o := ({ dst := none, op := Go.Op.store 28 (Go.Operand.tmp 6) (Go.Operand.tmp 11), type := 0, pos := "ref.go:65", after := #[{ on := 4, ground := Go.Ground.data }, { on := 1, ground := Go.Ground.data }, { on := 3, ground := Go.Ground.chain }, { on := 0, ground := Go.Ground.phase }, { on := 1, ground := Go.Ground.phase }, { on := 2, ground := Go.Ground.textOnly Go.Departure.lateStores }, { on := 3, ground := Go.Ground.textOnly Go.Departure.lateStoresUnsure }, { on := 4, ground := Go.Ground.phase }, { on := 5, ground := Go.Ground.phase }], guard := none } : Oper)) rfl (fun K hK => ?_) AllReadyH.nil)
          obtain ⟨q0, q1, q2, q3, q4, q5, q6, q7, q8, q9, q10, qf, ql⟩ := (show HO w u4 ([_] ++ boxO k6 [_, _, _, _, _, _, _, _, _, _, _] :: _) from J.out).c11
          go_simp
          replace J := Lib.hid ((show HO w u4 ([_] ++ boxO k6 [_, _, _, _, _, _, _, _, _, _, _] :: _) from J.out).set11 (.int .i64 c.set) (.slice A3 n1 c3) (.int .i64 c.sc) (.int .i64 c.tr) (.slice Ad3 c.dm.length cd3) (.slice Ao3 c.op.length co3) (.bool c.is) (.slice Ai3 c.ip.length ci3) (.int .i64 c.dx) (.int .i64 c.dy) (.slice Ac3 c.cb.length cc3))
          generalize ((((((((((u4.setCell ⟨k6, 0, none⟩ (.int .i64 c.set)).setCell ⟨k6, 1, none⟩ (.slice A3 n1 c3)).setCell ⟨k6, 2, none⟩ (.int .i64 c.sc)).setCell ⟨k6, 3, none⟩ (.int .i64 c.tr)).setCell ⟨k6, 4, none⟩ (.slice Ad3 c.dm.length cd3)).setCell ⟨k6, 5, none⟩ (.slice Ao3 c.op.length co3)).setCell ⟨k6, 6, none⟩ (.bool c.is)).setCell ⟨k6, 7, none⟩ (.slice Ai3 c.ip.length ci3)).setCell ⟨k6, 8, none⟩ (.int .i64 c.dx)).setCell ⟨k6, 9, none⟩ (.int .i64 c.dy)).setCell ⟨k6, 10, none⟩ (.slice Ac3 c.cb.length cc3) = u5 at *
          clear q0 q1 q2 q3 q4 q5 q6 q7 q8 q9 q10 qf ql sk
          have sk := And.intro (show HO w _ ([_, _, _, _, _, _, _] ++ boxO w.heap.size [_, _, _, _, _, _, _, _, _, _, _] :: _) from J.out).c11c (show HO w _ ([_, _, _, _, _, _] ++ boxO (w.heap.size + 1) [_, _, _, _, _, _, _, _, _, _, _] :: _) from J.out).c11c
          refine hK.out _ _ sk (fun hHeld2 => ?_)
          clear hK K hHeld
          have hHeld := hHeld2
          clear hHeld2
          try simp only [Act.put, List.setIfInBounds_toArray, List.set_cons_zero, List.set_cons_succ]
          refine wpAnyH_ready (rs := [7]) (by kernel_rfl) (by simp) (AllReadyH.cons (o := ({ dst := none, op := Go.Op.store 28 (Go.Operand.tmp 7) (Go.Operand.tmp 13), type := 0, pos := "ref.go:65", after := #[{ on := 5, ground := Go.Ground.data }, { on := 3, ground := Go.Ground.data }, { on := 6, ground := Go.Ground.chain }, { on := 0, ground := Go.Ground.phase }, { on := 1, ground := Go.Ground.phase }, { on := 2, ground := Go.Ground.phase }, { on := 3, ground := Go.Ground.phase }, { on := 4, ground := Go.Ground.phase }, { on := 5, ground := Go.Ground.phase }, { on := 6, ground := Go.Ground.phase }], guard := none } : Oper)) rfl (fun K hK => ?_) AllReadyH.nil)
          obtain ⟨q0, q1, q2, q3, q4, q5, q6, q7, q8, q9, q10, qf, ql⟩ := (show HO w u5 ([_, _] ++ boxO k7 [_, _, _, _, _, _, _, _, _, _, _] :: _) from J.out).c11
          go_simp
          replace J := Lib.hid ((show HO w u5 ([_, _] ++ boxO k7 [_, _, _, _, _, _, _, _, _, _, _] :: _) from J.out).set11 (.int .i64 p.set) (.slice A4 n2 c4) (.int .i64 p.sc) (.int .i64 p.tr) (.slice Ad4 p.dm.length cd4) (.slice Ao4 p.op.length co4) (.bool p.is) (.slice Ai4 p.ip.length ci4) (.int .i64 p.dx) (.int .i64 p.dy) (.slice Ac4 p.cb.length cc4))
          generalize ((((((((((u5.setCell ⟨k7, 0, none⟩ (.int .i64 p.set)).setCell ⟨k7, 1, none⟩ (.slice A4 n2 c4)).setCell ⟨k7, 2, none⟩ (.int .i64 p.sc)).setCell ⟨k7, 3, none⟩ (.int .i64 p.tr)).setCell ⟨k7, 4, none⟩ (.slice Ad4 p.dm.length cd4)).setCell ⟨k7, 5, none⟩ (.slice Ao4 p.op.length co4)).setCell ⟨k7, 6, none⟩ (.bool p.is)).setCell ⟨k7, 7, none⟩ (.slice Ai4 p.ip.length ci4)).setCell ⟨k7, 8, none⟩ (.int .i64 p.dx)).setCell ⟨k7, 9, none⟩ (.int .i64 p.dy)).setCell ⟨k7, 10, none⟩ (.slice Ac4 p.cb.length cc4) = u6 at *
          clear q0 q1 q2 q3 q4 q5 q6 q7 q8 q9 q10 qf ql sk
          have sk := And.intro (show HO w _ ([_, _, _, _, _, _, _] ++ boxO w.heap.size [_, _, _, _, _, _, _, _, _, _, _] :: _) from J.out).c11c (show HO w _ ([_, _, _, _, _, _] ++ boxO (w.heap.size + 1) [_, _, _, _, _, _, _, _, _, _, _] :: _) from J.out).c11c
          refine hK.out _ _ sk (fun hHeld2 => ?_)
          clear hK K hHeld
          have hHeld := hHeld2
          clear hHeld2
          try simp only [Act.put, List.setIfInBounds_toArray, List.set_cons_zero, List.set_cons_succ]
          refine wpAnyH_done (by kernel_rfl) ?_ _
          clear sk
          replace J := Lib.hid (show HO w _ ([_, _, _, _] ++ _ :: _) from J.out).front
          replace J := Lib.hid (show HO w _ ([_, _, _, _] ++ _ :: _) from J.out).front
          replace J := Lib.hid (show HO w _ ([_, _, _, _] ++ _ :: _) from J.out).front
          replace J := Lib.hid (show HO w _ ([_, _, _, _] ++ _ :: _) from J.out).front
          go_wp2_with fail
          go_meet
          case rel => exact ⟨k6, k7, b3, b4, M3, M4, A3, c3, Ad3, cd3, Ao3, co3, Ai3, ci3, Ac3, cc3, A4, c4, Ad4, cd4, Ao4, co4, Ai4, ci4, Ac4, cc4, rfl, rfl, Lib.hid ⟨HL3.out, HL4.out⟩, J⟩
    · go_simp
      replace J := Lib.hid (J.out.alloc [.int .i64 0, .slice none 0 0, .int .i64 0, .int .i64 0, .slice none 0 0, .slice none 0 0, .bool false, .slice none 0 0, .int .i64 0, .int .i64 0, .slice none 0 0] 28)
      generalize u0.alloc (.cells #[.int .i64 0, .slice none 0 0, .int .i64 0, .int .i64 0, .slice none 0 0, .slice none 0 0, .bool false, .slice none 0 0, .int .i64 0, .int .i64 0, .slice none 0 0] 28) = u1 at *
      generalize u0.heap.size = k6 at *
      clear sk
      have sk := And.intro (show HO w _ ([_, _, _] ++ boxO w.heap.size [_, _, _, _, _, _, _, _, _, _, _] :: _) from J.out).c11c (show HO w _ ([_, _] ++ boxO (w.heap.size + 1) [_, _, _, _, _, _, _, _, _, _, _] :: _) from J.out).c11c
      refine hK.out _ _ sk (fun hHeld2 => ?_)
      clear hK K hHeld
      have hHeld := hHeld2
      clear hHeld2
      try simp only [Act.put, List.setIfInBounds_toArray, List.set_cons_zero, List.set_cons_succ]
      refine wpAnyH_ready (rs := [1, 5]) (by kernel_rfl) (by simp) (AllReadyH.cons (o := ({ dst := some 11, op := Go.Op.call { callee := Go.Callee.value (Go.Operand.func 35), args := #[Go.Operand.tmp 10], argTypes := #[28] }, type := 28, pos := "ref.go:65", after := #[{ on := 0, ground := Go.Ground.data }], guard := none } : Oper)) rfl (fun K hK => ?_) (AllReadyH.cons (o := ({ dst := some 7, op := Go.Op.alloc 28, type := 0, pos := "ref.go:65", after := #[], guard := none } : Oper)) rfl (fun K hK => ?_) AllReadyH.nil))
      · go_simp
        refine (CC1 _ J.out.below).out.mono ?_
        rintro e u2 ⟨M3, vb3, vd3, vo3, vi3, vc3, rfl, hL3, hho⟩
        have HL3 := Lib.hid (hL3.trans HE1.out)
        have hst := rowsO_st HL3.out hho
        obtain ⟨A3, c3, hv1, -, -⟩ := hst.bf.shape
        obtain ⟨Ad3, cd3, hv2, -, -⟩ := hst.dm.shape
        obtain ⟨Ao3, co3, hv3, -, -⟩ := hst.op.shape
        obtain ⟨Ai3, ci3, hv4, -, -⟩ := hst.ip.shape
        obtain ⟨Ac3, cc3, hv5, -, -⟩ := hst.cb.shape
        have hlen3 : M3.length = n1 := by rw [← HN1.out, ← List.length_map, HL3.out]
        rw [hlen3] at hv1
        subst hv1 hv2 hv3 hv4 hv5
        replace J := Lib.hid (J.out.bundle1 hho)
        generalize u1.heap.size = b3 at *
        clear hho hL3 hst sk hlen3
        have sk := And.intro (show HO w _ ([_, _, _, _, _] ++ boxO w.heap.size [_, _, _, _, _, _, _, _, _, _, _] :: _) from J.out).c11c (show HO w _ ([_, _, _, _] ++ boxO (w.heap.size + 1) [_, _, _, _, _, _, _, _, _, _, _] :: _) from J.out).c11c
        refine hK.out _ _ sk (fun hHeld2 => ?_)
        clear hK K hHeld
        have hHeld := hHeld2
        clear hHeld2
        try simp only [Act.put, List.setIfInBounds_toArray, List.set_cons_zero, List.set_cons_succ]
        refine wpAnyH_ready (rs := [3, 5]) (by kernel_rfl) (by simp) (AllReadyH.cons (o := ({ dst := some 13, op := Go.Op.call { callee := Go.Callee.value (Go.Operand.func 35), args := #[Go.Operand.tmp 12], argTypes := #[28] }, type := 28, pos := "ref.go:65", after := #[{ on := 2, ground := Go.Ground.data }, { on := 1, ground := Go.Ground.chain }], guard := none } : Oper)) rfl (fun K hK => ?_) (AllReadyH.cons (o := ({ dst := some 7, op := Go.Op.alloc 28, type := 0, pos := "ref.go:65", after := #[], guard := none } : Oper)) rfl (fun K hK => ?_) AllReadyH.nil))
        · go_simp
          refine (CC2 _ J.out.below).out.mono ?_
          rintro e u3 ⟨M4, vb4, vd4, vo4, vi4, vc4, rfl, hL4, hho⟩
          have HL4 := Lib.hid (hL4.trans HE2.out)
          have hst := rowsO_st HL4.out hho
          obtain ⟨A4, c4, hv1, -, -⟩ := hst.bf.shape
          obtain ⟨Ad4, cd4, hv2, -, -⟩ := hst.dm.shape
          obtain ⟨Ao4, co4, hv3, -, -⟩ := hst.op.shape
          obtain ⟨Ai4, ci4, hv4, -, -⟩ := hst.ip.shape
          obtain ⟨Ac4, cc4, hv5, -, -⟩ := hst.cb.shape
          have hlen4 : M4.length = n2 := by rw [← HN2.out, ← List.length_map, HL4.out]
          rw [hlen4] at hv1
          subst hv1 hv2 hv3 hv4 hv5
          replace J := Lib.hid (J.out.bundle hho)
          generalize u2.heap.size = b4 at *
          clear hho hL4 hst sk hlen4
          have sk := And.intro (show HO w _ ([_, _, _, _, _, _] ++ boxO w.heap.size [_, _, _, _, _, _, _, _, _, _, _] :: _) from J.out).c11c (show HO w _ ([_, _, _, _, _] ++ boxO (w.heap.size + 1) [_, _, _, _, _, _, _, _, _, _, _] :: _) from J.out).c11c
          refine hK.out _ _ sk (fun hHeld2 => ?_)
          clear hK K hHeld
          have hHeld := hHeld2
          clear hHeld2
          try simp only [Act.put, List.setIfInBounds_toArray, List.set_cons_zero, List.set_cons_succ]
          refine wpAnyH_ready (rs := [5]) (by kernel_rfl) (by simp) (AllReadyH.cons (o := ({ dst := some 7, op := Go.Op.alloc 28, type := 0, pos := "ref.go:65", after := #[], guard := none } : Oper)) rfl (fun K hK => ?_) AllReadyH.nil)
          go_simp
          replace J := Lib.hid (J.out.alloc [.int .i64 0, .slice none 0 0, .int .i64 0, .int .i64 0, .slice none 0 0, .slice none 0 0, .bool false, .slice none 0 0, .int .i64 0, .int .i64 0, .slice none 0 0] 28)
          generalize u3.alloc (.cells #[.int .i64 0, .slice none 0 0, .int .i64 0, .int .i64 0, .slice none 0 0, .slice none 0 0, .bool false, .slice none 0 0, .int .i64 0, .int .i64 0, .slice none 0 0] 28) = u4 at *
          generalize u3.heap.size = k7 at *
          clear sk
          have sk := And.intro (show HO w _ ([_, _, _, _, _, _, _] ++ boxO w.heap.size [_, _, _, _, _, _, _, _, _, _, _] :: _) from J.out).c11c (show HO w _ ([_, _, _, _, _, _] ++ boxO (w.heap.size + 1) [_, _, _, _, _, _, _, _, _, _, _] :: _) from J.out).c11c
          refine hK.out _ _ sk (fun hHeld2 => ?_)
          clear hK K hHeld
          have hHeld := hHeld2
          clear hHeld2
          try simp only [Act.put, List.setIfInBounds_toArray, List.set_cons_zero, List.set_cons_succ]
          refine wpAnyH_ready (rs := [6]) (by kernel_rfl) (by simp) (AllReadyH.cons (o := ({ dst := none, op := Go.Op.store 28 (Go.Operand.tmp 6) (Go.Operand.tmp 11), type := 0, pos := "ref.go:65", after := #[{ on := 4, ground := Go.Ground.data }, { on := 1, ground := Go.Ground.data }, { on := 3, ground := Go.Ground.chain }, { on := 0, ground := Go.Ground.phase }, { on := 1, ground := Go.Ground.phase }, { on := 2, ground := Go.Ground.textOnly Go.Departure.lateStores }, { on := 3, ground := Go.Ground.textOnly Go.Departure.lateStoresUnsure }, { on := 4, ground := Go.Ground.phase }, { on := 5, ground := Go.Ground.phase }], guard := none } : Oper)) rfl (fun K hK => ?_) AllReadyH.nil)
          obtain ⟨q0, q1, q2, q3, q4, q5, q6, q7, q8, q9, q10, qf, ql⟩ := (show HO w u4 ([_, _, _, _] ++ boxO k6 [_, _, _, _, _, _, _, _, _, _, _] :: _) from J.out).c11
          go_simp
          replace J := Lib.hid ((show HO w u4 ([_, _, _, _] ++ boxO k6 [_, _, _, _, _, _, _, _, _, _, _] :: _) from J.out).set11 (.int .i64 c.set) (.slice A3 n1 c3) (.int .i64 c.sc) (.int .i64 c.tr) (.slice Ad3 c.dm.length cd3) (.slice Ao3 c.op.length co3) (.bool c.is) (.slice Ai3 c.ip.length ci3) (.int .i64 c.dx) (.int .i64 c.dy) (.slice Ac3 c.cb.length cc3))
          generalize ((((((((((u4.setCell ⟨k6, 0, none⟩ (.int .i64 c.set)).setCell ⟨k6, 1, none⟩ (.slice A3 n1 c3)).setCell ⟨k6, 2, none⟩ (.int .i64 c.sc)).setCell ⟨k6, 3, none⟩ (.int .i64 c.tr)).setCell ⟨k6, 4, none⟩ (.slice Ad3 c.dm.length cd3)).setCell ⟨k6, 5, none⟩ (.slice Ao3 c.op.length co3)).setCell ⟨k6, 6, none⟩ (.bool c.is)).setCell ⟨k6, 7, none⟩ (.slice Ai3 c.ip.length ci3)).setCell ⟨k6, 8, none⟩ (.int .i64 c.dx)).setCell ⟨k6, 9, none⟩ (.int .i64 c.dy)).setCell ⟨k6, 10, none⟩ (.slice Ac3 c.cb.length cc3) = u5 at *
          clear q0 q1 q2 q3 q4 q5 q6 q7 q8 q9 q10 qf ql sk
          have sk := And.intro (show HO w _ ([_, _, _, _, _, _, _] ++ boxO w.heap.size [_, _, _, _, _, _, _, _, _, _, _] :: _) from J.out).c11c (show HO w _ ([_, _, _, _, _, _] ++ boxO (w.heap.size + 1) [_, _, _, _, _, _, _, _, _, _, _] :: _) from J.out).c11c
          refine hK.out _ _ sk (fun hHeld2 => ?_)
          clear hK K hHeld
          have hHeld := hHeld2
          clear hHeld2
          try simp only [Act.put, List.setIfInBounds_toArray, List.set_cons_zero, List.set_cons_succ]
          refine wpAnyH_ready (rs := [7]) (by kernel_rfl) (by simp) (AllReadyH.cons (o := ({ dst := none, op := Go.Op.store 28 (Go.Operand.tmp 7) (Go.Operand.tmp 13), type := 0, pos := "ref.go:65", after := #[{ on := 5, ground := Go.Ground.data }, { on := 3, ground := Go.Ground.data }, { on := 6, ground := Go.Ground.chain }, { on := 0, ground := Go.Ground.phase }, { on := 1, ground := Go.Ground.phase }, { on := 2, ground := Go.Ground.phase }, { on := 3, ground := Go.Ground.phase }, { on := 4, ground := Go.Ground.phase }, { on := 5, ground := Go.Ground.phase }, { on := 6, ground := Go.Ground.phase }], guard := none } : Oper)) rfl (fun K hK => ?_) AllReadyH.nil)
          obtain ⟨q0, q1, q2, q3, q4, q5, q6, q7, q8, q9, q10, qf, ql⟩ := (show HO w u5 ([] ++ boxO k7 [_, _, _, _, _, _, _, _, _, _, _] :: _) from J.out).c11
          go_simp
          replace J := Lib.hid ((show HO w u5 ([] ++ boxO k7 [_, _, _, _, _, _, _, _, _, _, _] :: _) from J.out).set11 (.int .i64 p.set) (.slice A4 n2 c4) (.int .i64 p.sc) (.int .i64 p.tr) (.slice Ad4 p.dm.length cd4) (.slice Ao4 p.op.length co4) (.bool p.is) (.slice Ai4 p.ip.length ci4) (.int .i64 p.dx) (.int .i64 p.dy) (.slice Ac4 p.cb.length cc4))
          generalize ((((((((((u5.setCell ⟨k7, 0, none⟩ (.int .i64 p.set)).setCell ⟨k7, 1, none⟩ (.slice A4 n2 c4)).setCell ⟨k7, 2, none⟩ (.int .i64 p.sc)).setCell ⟨k7, 3, none⟩ (.int .i64 p.tr)).setCell ⟨k7, 4, none⟩ (.slice Ad4 p.dm.length cd4)).setCell ⟨k7, 5, none⟩ (.slice Ao4 p.op.length co4)).setCell ⟨k7, 6, none⟩ (.bool p.is)).setCell ⟨k7, 7, none⟩ (.slice Ai4 p.ip.length ci4)).setCell ⟨k7, 8, none⟩ (.int .i64 p.dx)).setCell ⟨k7, 9, none⟩ (.int .i64 p.dy)).setCell ⟨k7, 10, none⟩ (.slice Ac4 p.cb.length cc4) = u6 at *
          clear q0 q1 q2 q3 q4 q5 q6 q7 q8 q9 q10 qf ql sk
          have sk := And.intro (show HO w _ ([_, _, _, _, _, _, _] ++ boxO w.heap.size [_, _, _, _, _, _, _, _, _, _, _] :: _) from J.out).c11c (show HO w _ ([_, _, _, _, _, _] ++ boxO (w.heap.size + 1) [_, _, _, _, _, _, _, _, _, _, _] :: _) from J.out).c11c
          refine hK.out _ _ sk (fun hHeld2 => ?_)
          clear hK K hHeld
          have hHeld := hHeld2
          clear hHeld2
          try simp only [Act.put, List.setIfInBounds_toArray, List.set_cons_zero, List.set_cons_succ]
          refine wpAnyH_done (by kernel_rfl) ?_ _
          clear sk
          replace J := Lib.hid (show HO w _ ([_] ++ _ :: _) from J.out).front
          replace J := Lib.hid (show HO w _ ([_, _, _] ++ _ :: _) from J.out).front
          replace J := Lib.hid (show HO w _ ([_, _, _] ++ _ :: _) from J.out).front
          replace J := Lib.hid (show HO w _ ([_, _, _] ++ _ :: _) from J.out).front
          replace J := Lib.hid (show HO w _ ([_, _, _, _] ++ _ :: _) from J.out).front
          go_wp2_with fail
          go_meet
          case rel => exact ⟨k6, k7, b3, b4, M3, M4, A3, c3, Ad3, cd3, Ao3, co3, Ai3, ci3, Ac3, cc3, A4, c4, Ad4, cd4, Ao4, co4, Ai4, ci4, Ac4, cc4, rfl, rfl, Lib.hid ⟨HL3.out, HL4.out⟩, J⟩
        · go_simp
          replace J := Lib.hid (J.out.alloc [.int .i64 0, .slice none 0 0, .int .i64 0, .int .i64 0, .slice none 0 0, .slice none 0 0, .bool false, .slice none 0 0, .int .i64 0, .int .i64 0, .slice none 0 0] 28)
          generalize u2.alloc (.cells #[.int .i64 0, .slice none 0 0, .int .i64 0, .int .i64 0, .slice none 0 0, .slice none 0 0, .bool false, .slice none 0 0, .int .i64 0, .int .i64 0, .slice none 0 0] 28) = u3 at *
          generalize u2.heap.size = k7 at *
          clear sk
          have sk := And.intro (show HO w _ ([_, _, _, _, _, _] ++ boxO w.heap.size [_, _, _, _, _, _, _, _, _, _, _] :: _) from J.out).c11c (show HO w _ ([_, _, _, _, _] ++ boxO (w.heap.size + 1) [_, _, _, _, _, _, _, _, _, _, _] :: _) from J.out).c11c
          refine hK.out _ _ sk (fun hHeld2 => ?_)
          clear hK K hHeld
          have hHeld := hHeld2
          clear hHeld2
          try simp only [Act.put, List.setIfInBounds_toArray, List.set_cons_zero, List.set_cons_succ]
          refine wpAnyH_ready (rs := [3]) (by kernel_rfl) (by simp) (AllReadyH.cons (o := ({ dst := some 13, op := Go.Op.call { callee := Go.Callee.value (Go.Operand.func 35), args := #[Go.Operand.tmp 12], argTypes := #[28] }, type := 28, pos := "ref.go:65", after := #[{ on := 2, ground := Go.Ground.data }, { on := 1, ground := Go.Ground.chain }], guard := none } : Oper)) rfl (fun K hK => ?_) AllReadyH.nil)
          go_simp
          refine (CC2 _ J.out.below).out.mono ?_
          rintro e u4 ⟨M4, vb4, vd4, vo4, vi4, vc4, rfl, hL4, hho⟩
          have HL4 := Lib.hid (hL4.trans HE2.out)
          have hst := rowsO_st HL4.out hho
          obtain ⟨A4, c4, hv1, -, -⟩ := hst.bf.shape
          obtain ⟨Ad4, cd4, hv2, -, -⟩ := hst.dm.shape
          obtain ⟨Ao4, co4, hv3, -, -⟩ := hst.op.shape
          obtain ⟨Ai4, ci4, hv4, -, -⟩ := hst.ip.shape
          obtain ⟨Ac4, cc4, hv5, -, -⟩ := hst.cb.shape
          have hlen4 : M4.length = n2 := by rw [← HN2.out, ← List.length_map, HL4.out]
          rw [hlen4] at hv1
          subst hv1 hv2 hv3 hv4 hv5
          replace J := Lib.hid (J.out.bundle hho)
          generalize u3.heap.size = b4 at *
          clear hho hL4 hst sk hlen4
          have sk := And.intro (show HO w _ ([_, _, _, _, _, _, _] ++ boxO w.heap.size [_, _, _, _, _, _, _, _, _, _, _] :: _) from J.out).c11c (show HO w _ ([_, _, _, _, _, _] ++ boxO (w.heap.size + 1) [_, _, _, _, _, _, _, _, _, _, _] :: _) from J.out).c11c
          refine hK.out _ _ sk (fun hHeld2 => ?_)
          clear hK K hHeld
          have hHeld := hHeld2
          clear hHeld2
          try simp only [Act.put, List.setIfInBounds_toArray, List.set_cons_zero, List.set_cons_succ]
          refine wpAnyH_ready (rs := [6]) (by kernel_rfl) (by simp) (AllReadyH.cons (o := ({ dst := none, op := Go.Op.store 28 (Go.Operand.tmp 6) (Go.Operand.tmp 11), type := 0, pos := "ref.go:65", after := #[{ on := 4, ground := Go.Ground.data }, { on := 1, ground := Go.Ground.data }, { on := 3, ground := Go.Ground.chain }, { on := 0, ground := Go.Ground.phase }, { on := 1, ground := Go.Ground.phase }, { on := 2, ground := Go.Ground.textOnly Go.Departure.lateStores }, { on := 3, ground := Go.Ground.textOnly Go.Departure.lateStoresUnsure }, { on := 4, ground := Go.Ground.phase }, { on := 5, ground := Go.Ground.phase }], guard := none } : Oper)) rfl (fun K hK => ?_) AllReadyH.nil)
          obtain ⟨q0, q1, q2, q3, q4, q5, q6, q7, q8, q9, q10, qf, ql⟩ := (show HO w u4 ([_, _, _, _] ++ boxO k6 [_, _, _, _, _, _, _, _, _, _, _] :: _) from J.out).c11
          go_simp
          replace J := Lib.hid ((show HO w u4 ([_, _, _, _] ++ boxO k6 [_, _, _, _, _, _, _, _, _, _, _] :: _) from J.out).set11 (.int .i64 c.set) (.slice A3 n1 c3) (.int .i64 c.sc) (.int .i64 c.tr) (.slice Ad3 c.dm.length cd3) (.slice Ao3 c.op.length co3) (.bool c.is) (.slice Ai3 c.ip.length ci3) (.int .i64 c.dx) (.int .i64 c.dy) (.slice Ac3 c.cb.length cc3))
          generalize ((((((((((u4.setCell ⟨k6, 0, none⟩ (.int .i64 c.set)).setCell ⟨k6, 1, none⟩ (.slice A3 n1 c3)).setCell ⟨k6, 2, none⟩ (.int .i64 c.sc)).setCell ⟨k6, 3, none⟩ (.int .i64 c.tr)).setCell ⟨k6, 4, none⟩ (.slice Ad3 c.dm.length cd3)).setCell ⟨k6, 5, none⟩ (.slice Ao3 c.op.length co3)).setCell ⟨k6, 6, none⟩ (.bool c.is)).setCell ⟨k6, 7, none⟩ (.slice Ai3 c.ip.length ci3)).setCell ⟨k6, 8, none⟩ (.int .i64 c.dx)).setCell ⟨k6, 9, none⟩ (.int .i64 c.dy)).setCell ⟨k6, 10, none⟩ (.slice Ac3 c.cb.length cc3) = u5 at *
          clear q0 q1 q2 q3 q4 q5 q6 q7 q8 q9 q10 qf ql sk
          have sk := And.intro (show HO w _ ([_, _, _, _, _, _, _] ++ boxO w.heap.size [_, _, _, _, _, _, _, _, _, _, _] :: _) from J.out).c11c (show HO w _ ([_, _, _, _, _, _] ++ boxO (w.heap.size + 1) [_, _, _, _, _, _, _, _, _, _, _] :: _) from J.out).c11c
          refine hK.out _ _ sk (fun hHeld2 => ?_)
          clear hK K hHeld
          have hHeld := hHeld2
          clear hHeld2
          try simp only [Act.put, List.setIfInBounds_toArray, List.set_cons_zero, List.set_cons_succ]
          refine wpAnyH_ready (rs := [7]) (by kernel_rfl) (by simp) (AllReadyH.cons (o := ({ dst := none, op := Go.Op.store 28 (Go.Operand.tmp 7) (Go.Operand.tmp 13), type := 0, pos := "ref.go:65", after := #[{ on := 5, ground := Go.Ground.data }, { on := 3, ground := Go.Ground.data }, { on := 6, ground := Go.Ground.chain }, { on := 0, ground := Go.Ground.phase }, { on := 1, ground := Go.Ground.phase }, { on := 2, ground := Go.Ground.phase }, { on := 3, ground := Go.Ground.phase }, { on := 4, ground := Go.Ground.phase }, { on := 5, ground := Go.Ground.phase }, { on := 6, ground := Go.Ground.phase }], guard := none } : Oper)) rfl (fun K hK => ?_) AllReadyH.nil)
          obtain ⟨q0, q1, q2, q3, q4, q5, q6, q7, q8, q9, q10, qf, ql⟩ := (show HO w u5 ([_] ++ boxO k7 [_, _, _, _, _, _, _, _, _, _, _] :: _) from J.out).c11
          go_simp
          replace J := Lib.hid ((show HO w u5 ([_] ++ boxO k7 [_, _, _, _, _, _, _, _, _, _, _] :: _) from J.out).set11 (.int .i64 p.set) (.slice A4 n2 c4) (.int .i64 p.sc) (.int .i64 p.tr) (.slice Ad4 p.dm.length cd4) (.slice Ao4 p.op.length co4) (.bool p.is) (.slice Ai4 p.ip.length ci4) (.int .i64 p.dx) (.int .i64 p.dy) (.slice Ac4 p.cb.length cc4))
          generalize ((((((((((u5.setCell ⟨k7, 0, none⟩ (.int .i64 p.set)).setCell ⟨k7, 1, none⟩ (.slice A4 n2 c4)).setCell ⟨k7, 2, none⟩ (.int .i64 p.sc)).setCell ⟨k7, 3, none⟩ (.int .i64 p.tr)).setCell ⟨k7, 4, none⟩ (.slice Ad4 p.dm.length cd4)).setCell ⟨k7, 5, none⟩ (.slice Ao4 p.op.length co4)).setCell ⟨k7, 6, none⟩ (.bool p.is)).setCell ⟨k7, 7, none⟩ (.slice Ai4 p.ip.length ci4)).setCell ⟨k7, 8, none⟩ (.int .i64 p.dx)).setCell ⟨k7, 9, none⟩ (.int .i64 p.dy)).setCell ⟨k7, 10, none⟩ (.slice Ac4 p.cb.length cc4) = u6 at *
          clear q0 q1 q2 q3 q4 q5 q6 q7 q8 q9 q10 qf ql sk
          have sk := And.intro (show HO w _ ([_, _, _, _, _, _, _] ++ boxO w.heap.size [_, _, _, _, _, _, _, _, _, _, _] :: _) from J.out).c11c (show HO w _ ([_, _, _, _, _, _] ++ boxO (w.heap.size + 1) [_, _, _, _, _, _, _, _, _, _, _] :: _) from J.out).c11c
          refine hK.out _ _ sk (fun hHeld2 => ?_)
          clear hK K hHeld
          have hHeld := hHeld2
          clear hHeld2
          try simp only [Act.put, List.setIfInBounds_toArray, List.set_cons_zero, List.set_cons_succ]
          refine wpAnyH_done (by kernel_rfl) ?_ _
          clear sk
          replace J := Lib.hid (show HO w _ ([_, _, _] ++ _ :: _) from J.out).front
          replace J := Lib.hid (show HO w _ ([_, _, _] ++ _ :: _) from J.out).front
          replace J := Lib.hid (show HO w _ ([_, _, _] ++ _ :: _) from J.out).front
          replace J := Lib.hid (show HO w _ ([_, _, _, _] ++ _ :: _) from J.out).front
          go_wp2_with fail
          go_meet
          case rel => exact ⟨k6, k7, b3, b4, M3, M4, A3, c3, Ad3, cd3, Ao3, co3, Ai3, ci3, Ac3, cc3, A4, c4, Ad4, cd4, Ao4, co4, Ai4, ci4, Ac4, cc4, rfl, rfl, Lib.hid ⟨HL3.out, HL4.out⟩, J⟩
      · go_simp
        replace J := Lib.hid (J.out.alloc [.int .i64 0, .slice none 0 0, .int .i64 0, .int .i64 0, .slice none 0 0, .slice none 0 0, .bool false, .slice none 0 0, .int .i64 0, .int .i64 0, .slice none 0 0] 28)
        generalize u1.alloc (.cells #[.int .i64 0, .slice none 0 0, .int .i64 0, .int .i64 0, .slice none 0 0, .slice none 0 0, .bool false, .slice none 0 0, .int .i64 0, .int .i64 0, .slice none 0 0] 28) = u2 at *
        generalize u1.heap.size = k7 at *
        clear sk
        have sk := And.intro (show HO w _ ([_, _, _, _] ++ boxO w.heap.size [_, _, _, _, _, _, _, _, _, _, _] :: _) from J.out).c11c (show HO w _ ([_, _, _] ++ boxO (w.heap.size + 1) [_, _, _, _, _, _, _, _, _, _, _] :: _) from J.out).c11c
        refine hK.out _ _ sk (fun hHeld2 => ?_)
        clear hK K hHeld
        have hHeld := hHeld2
        clear hHeld2
        try simp only [Act.put, List.setIfInBounds_toArray, List.set_cons_zero, List.set_cons_succ]
        refine wpAnyH_ready (rs := [1]) (by kernel_rfl) (by simp) (AllReadyH.cons (o := ({ dst := some 11, op := Go.Op.call { callee := Go.Callee.value (Go.Operand.func 35), args := #[Go.Operand.tmp 10], argTypes := #[28] }, type := 28, pos := "ref.go:65", after := #[{ on := 0, ground := Go.Ground.data }], guard := none } : Oper)) rfl (fun K hK => ?_) AllReadyH.nil)
        go_simp
        refine (CC1 _ J.out.below).out.mono ?_
        rintro e u3 ⟨M3, vb3, vd3, vo3, vi3, vc3, rfl, hL3, hho⟩
        have HL3 := Lib.hid (hL3.trans HE1.out)
        have hst := rowsO_st HL3.out hho
        obtain ⟨A3, c3, hv1, -, -⟩ := hst.bf.shape
        obtain ⟨Ad3, cd3, hv2, -, -⟩ := hst.dm.shape
        obtain ⟨Ao3, co3, hv3, -, -⟩ := hst.op.shape
        obtain ⟨Ai3, ci3, hv4, -, -⟩ := hst.ip.shape
        obtain ⟨Ac3, cc3, hv5, -, -⟩ := hst.cb.shape
        have hlen3 : M3.length = n1 := by rw [← HN1.out, ← List.length_map, HL3.out]
        rw [hlen3] at hv1
        subst hv1 hv2 hv3 hv4 hv5
        replace J := Lib.hid (J.out.bundle1 hho)
        generalize u2.heap.size = b3 at *
        clear hho hL3 hst sk hlen3
        have sk := And.intro (show HO w _ ([_, _, _, _, _, _] ++ boxO w.heap.size [_, _, _, _, _, _, _, _, _, _, _] :: _) from J.out).c11c (show HO w _ ([_, _, _, _, _] ++ boxO (w.heap.size + 1) [_, _, _, _, _, _, _, _, _, _, _] :: _) from J.out).c11c
        refine hK.out _ _ sk (fun hHeld2 => ?_)
        clear hK K hHeld
        have hHeld := hHeld2
        clear hHeld2
        try simp only [Act.put, List.setIfInBounds_toArray, List.set_cons_zero, List.set_cons_succ]
        refine wpAnyH_ready (rs := [3]) (by kernel_rfl) (by simp) (AllReadyH.cons (o := ({ dst := some 13, op := Go.Op.call { callee := Go.Callee.value (Go.Operand.func 35), args := #[Go.Operand.tmp 12], argTypes := #[28] }, type := 28, pos := "ref.go:65", after := #[{ on := 2, ground := Go.Ground.data }, { on := 1, ground := Go.Ground.chain }], guard := none } : Oper)) rfl (fun K hK => ?_) AllReadyH.nil)
        go_simp
        refine (CC2 _ J.out.below).out.mono ?_
        rintro e u4 ⟨M4, vb4, vd4, vo4, vi4, vc4, rfl, hL4, hho⟩
        have HL4 := Lib.hid (hL4.trans HE2.out)
        have hst := rowsO_st HL4.out hho
        obtain ⟨A4, c4, hv1, -, -⟩ := hst.bf.shape
        obtain ⟨Ad4, cd4, hv2, -, -⟩ := hst.dm.shape
        obtain ⟨Ao4, co4, hv3, -, -⟩ := hst.op.shape
        obtain ⟨Ai4, ci4, hv4, -, -⟩ := hst.ip.shape
        obtain ⟨Ac4, cc4, hv5, -, -⟩ := hst.cb.shape
        have hlen4 : M4.length = n2 := by rw [← HN2.out, ← List.length_map, HL4.out]
        rw [hlen4] at hv1
        subst hv1 hv2 hv3 hv4 hv5
        replace J := Lib.hid (J.out.bundle hho)
        generalize u3.heap.size = b4 at *
        clear hho hL4 hst sk hlen4
        have sk := And.intro (show HO w _ ([_, _, _, _, _, _, _] ++ boxO w.heap.size [_, _, _, _, _, _, _, _, _, _, _] :: _) from J.out).c11c (show HO w _ ([_, _, _, _, _, _] ++ boxO (w.heap.size + 1) [_, _, _, _, _, _, _, _, _, _, _] :: _) from J.out).c11c
        refine hK.out _ _ sk (fun hHeld2 => ?_)
        clear hK K hHeld
        have hHeld := hHeld2
        clear hHeld2
        try simp only [Act.put, List.setIfInBounds_toArray, List.set_cons_zero, List.set_cons_succ]
        refine wpAnyH_ready (rs := [6]) (by kernel_rfl) (by simp) (AllReadyH.cons (o := ({ dst := none, op := Go.Op.store 28 (Go.Operand.tmp 6) (Go.Operand.tmp 11), type := 0, pos := "ref.go:65", after := #[{ on := 4, ground := Go.Ground.data }, { on := 1, ground := Go.Ground.data }, { on := 3, ground := Go.Ground.chain }, { on := 0, ground := Go.Ground.phase }, { on := 1, ground := Go.Ground.phase }, { on := 2, ground := Go.Ground.textOnly Go.Departure.lateStores }, { on := 3, ground := Go.Ground.textOnly Go.Departure.lateStoresUnsure }, { on := 4, ground := Go.Ground.phase }, { on := 5, ground := Go.Ground.phase }], guard := none } : Oper)) rfl (fun K hK => ?_) AllReadyH.nil)
        obtain ⟨q0, q1, q2, q3, q4, q5, q6, q7, q8, q9, q10, qf, ql⟩ := (show HO w u4 ([_, _, _, _] ++ boxO k6 [_, _, _, _, _, _, _, _, _, _, _] :: _) from J.out).c11
        go_simp
        replace J := Lib.hid ((show HO w u4 ([_, _, _, _] ++ boxO k6 [_, _, _, _, _, _, _, _, _, _, _] :: _) from J.out).set11 (.int .i64 c.set) (.slice A3 n1 c3) (.int .i64 c.sc) (.int .i64 c.tr) (.slice Ad3 c.dm.length cd3) (.slice Ao3 c.op.length co3) (.bool c.is) (.slice Ai3 c.ip.length ci3) (.int .i64 c.dx) (.int .i64 c.dy) (.slice Ac3 c.cb.length cc3))
        generalize ((((((((((u4.setCell ⟨k6, 0, none⟩ (.int .i64 c.set)).setCell ⟨k6, 1, none⟩ (.slice A3 n1 c3)).setCell ⟨k6, 2, none⟩ (.int .i64 c.sc)).setCell ⟨k6, 3, none⟩ (.int .i64 c.tr)).setCell ⟨k6, 4, none⟩ (.slice Ad3 c.dm.length cd3)).setCell ⟨k6, 5, none⟩ (.slice Ao3 c.op.length co3)).setCell ⟨k6, 6, none⟩ (.bool c.is)).setCell ⟨k6, 7, none⟩ (.slice Ai3 c.ip.length ci3)).setCell ⟨k6, 8, none⟩ (.int .i64 c.dx)).setCell ⟨k6, 9, none⟩ (.int .i64 c.dy)).setCell ⟨k6, 10, none⟩ (.slice Ac3 c.cb.length cc3) = u5 at *
        clear q0 q1 q2 q3 q4 q5 q6 q7 q8 q9 q10 qf ql sk
        have sk := And.intro (show HO w _ ([_, _, _, _, _, _, _] ++ boxO w.heap.size [_, _, _, _, _, _, _, _, _, _, _] :: _) from J.out).c11c (show HO w _ ([_, _, _, _, _, _] ++ boxO (w.heap.size + 1) [_, _, _, _, _, _, _, _, _, _, _] :: _) from J.out).c11c
        refine hK.out _ _ sk (fun hHeld2 => ?_)
        clear hK K hHeld
        have hHeld := hHeld2
        clear hHeld2
        try simp only [Act.put, List.setIfInBounds_toArray, List.set_cons_zero, List.set_cons_succ]
        refine wpAnyH_ready (rs := [7]) (by kernel_rfl) (by simp) (AllReadyH.cons (o := ({ dst := none, op := Go.Op.store 28 (Go.Operand.tmp 7) (Go.Operand.tmp 13), type := 0, pos := "ref.go:65", after := #[{ on := 5, ground := Go.Ground.data }, { on := 3, ground := Go.Ground.data }, { on := 6, ground := Go.Ground.chain }, { on := 0, ground := Go.Ground.phase }, { on := 1, ground := Go.Ground.phase }, { on := 2, ground := Go.Ground.phase }, { on := 3, ground := Go.Ground.phase }, { on := 4, ground := Go.Ground.phase }, { on := 5, ground := Go.Ground.phase }, { on := 6, ground := Go.Ground.phase }], guard := none } : Oper)) rfl (fun K hK => ?_) AllReadyH.nil)
        obtain ⟨q0, q1, q2, q3, q4, q5, q6, q7, q8, q9, q10, qf, ql⟩ := (show HO w u5 ([_, _, _] ++ boxO k7 [_, _, _, _, _, _, _, _, _, _, _] :: _) from J.out).c11
        go_simp
        replace J := Lib.hid ((show HO w u5 ([_, _, _] ++ boxO k7 [_, _, _, _, _, _, _, _, _, _, _] :: _) from J.out).set11 (.int .i64 p.set) (.slice A4 n2 c4) (.int .i64 p.sc) (.int .i64 p.tr) (.slice Ad4 p.dm.length cd4) (.slice Ao4 p.op.length co4) (.bool p.is) (.slice Ai4 p.ip.length ci4) (.int .i64 p.dx) (.int .i64 p.dy) (.slice Ac4 p.cb.length cc4))
        generalize ((((((((((u5.setCell ⟨k7, 0, none⟩ (.int .i64 p.set)).setCell ⟨k7, 1, none⟩ (.slice A4 n2 c4)).setCell ⟨k7, 2, none⟩ (.int .i64 p.sc)).setCell ⟨k7, 3, none⟩ (.int .i64 p.tr)).setCell ⟨k7, 4, none⟩ (.slice Ad4 p.dm.length cd4)).setCell ⟨k7, 5, none⟩ (.slice Ao4 p.op.length co4)).setCell ⟨k7, 6, none⟩ (.bool p.is)).setCell ⟨k7, 7, none⟩ (.slice Ai4 p.ip.length ci4)).setCell ⟨k7, 8, none⟩ (.int .i64 p.dx)).setCell ⟨k7, 9, none⟩ (.int .i64 p.dy)).setCell ⟨k7, 10, none⟩ (.slice Ac4 p.cb.length cc4) = u6 at *
        clear q0 q1 q2 q3 q4 q5 q6 q7 q8 q9 q10 qf ql sk
        have sk := And.intro (show HO w _ ([_, _, _, _, _, _, _] ++ boxO w.heap.size [_, _, _, _, _, _, _, _, _, _, _] :: _) from J.out).c11c (show HO w _ ([_, _, _, _, _, _] ++ boxO (w.heap.size + 1) [_, _, _, _, _, _, _, _, _, _, _] :: _) from J.out).c11c
        refine hK.out _ _ sk (fun hHeld2 => ?_)
        clear hK K hHeld
        have hHeld := hHeld2
        clear hHeld2
        try simp only [Act.put, List.setIfInBounds_toArray, List.set_cons_zero, List.set_cons_succ]
        refine wpAnyH_done (by kernel_rfl) ?_ _
        clear sk
        replace J := Lib.hid (show HO w _ ([_, _] ++ _ :: _) from J.out).front
        replace J := Lib.hid (show HO w _ ([_, _] ++ _ :: _) from J.out).front
        replace J := Lib.hid (show HO w _ ([_, _, _] ++ _ :: _) from J.out).front
        replace J := Lib.hid (show HO w _ ([_, _, _, _] ++ _ :: _) from J.out).front
        go_wp2_with fail
        go_meet
        case rel => exact ⟨k6, k7, b3, b4, M3, M4, A3, c3, Ad3, cd3, Ao3, co3, Ai3, ci3, Ac3, cc3, A4, c4, Ad4, cd4, Ao4, co4, Ai4, ci4, Ac4, cc4, rfl, rfl, Lib.hid ⟨HL3.out, HL4.out⟩, J⟩
    · go_simp
      replace J := Lib.hid (J.out.alloc [.int .i64 0, .slice none 0 0, .int .i64 0, .int .i64 0, .slice none 0 0, .slice none 0 0, .bool false, .slice none 0 0, .int .i64 0, .int .i64 0, .slice none 0 0] 28)
      generalize u0.alloc (.cells #[.int .i64 0, .slice none 0 0, .int .i64 0, .int .i64 0, .slice none 0 0, .slice none 0 0, .bool false, .slice none 0 0, .int .i64 0, .int .i64 0, .slice none 0 0] 28) = u1 at *
      generalize u0.heap.size = k7 at *
      clear sk
      have sk := And.intro (show HO w _ ([_, _, _] ++ boxO w.heap.size [_, _, _, _, _, _, _, _, _, _, _] :: _) from J.out).c11c (show HO w _ ([_, _] ++ boxO (w.heap.size + 1) [_, _, _, _, _, _, _, _, _, _, _] :: _) from J.out).c11c
      refine hK.out _ _ sk (fun hHeld2 => ?_)
      clear hK K hHeld
      have hHeld := hHeld2
      clear hHeld2
      try simp only [Act.put, List.setIfInBounds_toArray, List.set_cons_zero, List.set_cons_succ]
      refine wpAnyH_ready (rs := [1, 4]) (by kernel_rfl) (by simp) (AllReadyH.cons (o := ({ dst := some 11, op := Go.Op.call { callee := Go.Callee.value (Go.Operand.func 35), args := #[Go.Operand.tmp 10], argTypes := #[28] }, type := 28, pos := "ref.go:65", after := #[{ on := 0, ground := Go.Ground.data }], guard := none } : Oper)) rfl (fun K hK => ?_) (AllReadyH.cons (o := ({ dst := some 6, op := Go.Op.alloc 28, type := 0, pos := "ref.go:65", after := #[], guard := none } : Oper)) rfl (fun K hK => ?_) AllReadyH.nil))
      · go_simp
        refine (CC1 _ J.out.below).out.mono ?_
        rintro e u2 ⟨M3, vb3, vd3, vo3, vi3, vc3, rfl, hL3, hho⟩
        have HL3 := Lib.hid (hL3.trans HE1.out)
        have hst := rowsO_st HL3.out hho
        obtain ⟨A3, c3, hv1, -, -⟩ := hst.bf.shape
        obtain ⟨Ad3, cd3, hv2, -, -⟩ := hst.dm.shape
        obtain ⟨Ao3, co3, hv3, -, -⟩ := hst.op.shape
        obtain ⟨Ai3, ci3, hv4, -, -⟩ := hst.ip.shape
        obtain ⟨Ac3, cc3, hv5, -, -⟩ := hst.cb.shape
        have hlen3 : M3.length = n1 := by rw [← HN1.out, ← List.length_map, HL3.out]
        rw [hlen3] at hv1
        subst hv1 hv2 hv3 hv4 hv5
        replace J := Lib.hid (J.out.bundle1 hho)
        generalize u1.heap.size = b3 at *
        clear hho hL3 hst sk hlen3
        have sk := And.intro (show HO w _ ([_, _, _, _, _] ++ boxO w.heap.size [_, _, _, _, _, _, _, _, _, _, _] :: _) from J.out).c11c (show HO w _ ([_, _, _, _] ++ boxO (w.heap.size + 1) [_, _, _, _, _, _, _, _, _, _, _] :: _) from J.out).c11c
        refine hK.out _ _ sk (fun hHeld2 => ?_)
        clear hK K hHeld
        have hHeld := hHeld2
        clear hHeld2
        try simp only [Act.put, List.setIfInBounds_toArray, List.set_cons_zero, List.set_cons_succ]
        refine wpAnyH_ready (rs := [3, 4]) (by kernel_rfl) (by simp) (AllReadyH.cons (o := ({ dst := some 13, op := Go.Op.call { callee := Go.Callee.value (Go.Operand.func 35), args := #[Go.Operand.tmp 12], argTypes := #[28] }, type := 28, pos := "ref.go:65", after := #[{ on := 2, ground := Go.Ground.data }, { on := 1, ground := Go.Ground.chain }], guard := none } : Oper)) rfl (fun K hK => ?_) (AllReadyH.cons (o := ({ dst := some 6, op := Go.Op.alloc 28, type := 0, pos := "ref.go:65", after := #[], guard := none } : Oper)) rfl (fun K hK => ?_) AllReadyH.nil))
        · go_simp
          refine (CC2 _ J.out.below).out.mono ?_
          rintro e u3 ⟨M4, vb4, vd4, vo4, vi4, vc4, rfl, hL4, hho⟩
          have HL4 := Lib.hid (hL4.trans HE2.out)
          have hst := rowsO_st HL4.out hho
          obtain ⟨A4, c4, hv1, -, -⟩ := hst.bf.shape
          obtain ⟨Ad4, cd4, hv2, -, -⟩ := hst.dm.shape
          obtain ⟨Ao4, co4, hv3, -, -⟩ := hst.op.shape
          obtain ⟨Ai4, ci4, hv4, -, -⟩ := hst.ip.shape
          obtain ⟨Ac4, cc4, hv5, -, -⟩ := hst.cb.shape
          have hlen4 : M4.length = n2 := by rw [← HN2.out, ← List.length_map, HL4.out]
          rw [hlen4] at hv1
          subst hv1 hv2 hv3 hv4 hv5
          replace J := Lib.hid (J.out.bundle hho)
          generalize u2.heap.size = b4 at *
          clear hho hL4 hst sk hlen4
          have sk := And.intro (show HO w _ ([_, _, _, _, _, _] ++ boxO w.heap.size [_, _, _, _, _, _, _, _, _, _, _] :: _) from J.out).c11c (show HO w _ ([_, _, _, _, _] ++ boxO (w.heap.size + 1) [_, _, _, _, _, _, _, _, _, _, _] :: _) from J.out).c11c
          refine hK.out _ _ sk (fun hHeld2 => ?_)
          clear hK K hHeld
          have hHeld := hHeld2
          clear hHeld2
          try simp only [Act.put, List.setIfInBounds_toArray, List.set_cons_zero, List.set_cons_succ]
          refine wpAnyH_ready (rs := [4]) (by kernel_rfl) (by simp) (AllReadyH.cons (o := ({ dst := some 6, op := Go.Op.alloc 28, type := 0, pos := "ref.go:65", after := #[], guard := none } : Oper)) rfl (fun K hK => ?_) AllReadyH.nil)
          go_simp
          replace J := Lib.hid (J.out.alloc [.int .i64 0, .slice none 0 0, .int .i64 0, .int .i64 0, .slice none 0 0, .slice none 0 0, .bool false, .slice none 0 0, .int .i64 0, .int .i64 0, .slice none 0 0] 28)
          generalize u3.alloc (.cells #[.int .i64 0, .slice none 0 0, .int .i64 0, .int .i64 0, .slice none 0 0, .slice none 0 0, .bool false, .slice none 0 0, .int .i64 0, .int .i64 0, .slice none 0 0] 28) = u4 at *
          generalize u3.heap.size = k6 at *
          clear sk
          have sk := And.intro (show HO w _ ([_, _, _, _, _, _, _] ++ boxO w.heap.size [_, _, _, _, _, _, _, _, _, _, _] :: _) from J.out).c11c (show HO w _ ([_, _, _, _, _, _] ++ boxO (w.heap.size + 1) [_, _, _, _, _, _, _, _, _, _, _] :: _) from J.out).c11c
          refine hK.out _ _ sk (fun hHeld2 => ?_)
          clear hK K hHeld
          have hHeld := hHeld2
          clear hHeld2
          try simp only [Act.put, List.setIfInBounds_toArray, List.set_cons_zero, List.set_cons_succ]
          refine wpAnyH_ready (rs := [6]) (by kernel_rfl) (by simp) (AllReadyH.cons (o := ({ dst := none, op := Go.Op.store 28 (Go.Operand.tmp 6) (Go.Operand.tmp 11), type := 0, pos := "ref.go:65", after := #[{ on := 4, ground := Go.Ground.data }, { on := 1, ground := Go.Ground.data }, { on := 3, ground := Go.Ground.chain }, { on := 0, ground := Go.Ground.phase }, { on := 1, ground := Go.Ground.phase }, { on := 2, ground := Go.Ground.textOnly Go.Departure.lateStores }, { on := 3, ground := Go.Ground.textOnly Go.Departure.lateStoresUnsure }, { on := 4, ground := Go.Ground.phase }, { on := 5, ground := Go.Ground.phase }], guard := none } : Oper)) rfl (fun K hK => ?_) AllReadyH.nil)
          obtain ⟨q0, q1, q2, q3, q4, q5, q6, q7, q8, q9, q10, qf, ql⟩ := (show HO w u4 ([] ++ boxO k6 [_, _, _, _, _, _, _, _, _, _, _] :: _) from J.out).c11
          go_simp
          replace J := Lib.hid ((show HO w u4 ([] ++ boxO k6 [_, _, _, _, _, _, _, _, _, _, _] :: _) from J.out).set11 (.int .i64 c.set) (.slice A3 n1 c3) (.int .i64 c.sc) (.int .i64 c.tr) (.slice Ad3 c.dm.length cd3) (.slice Ao3 c.op.length co3) (.bool c.is) (.slice Ai3 c.ip.length ci3) (.int .i64 c.dx) (.int .i64 c.dy) (.slice Ac3 c.cb.length cc3))
          generalize ((((((((((u4.setCell ⟨k6, 0, none⟩ (.int .i64 c.set)).setCell ⟨k6, 1, none⟩ (.slice A3 n1 c3)).setCell ⟨k6, 2, none⟩ (.int .i64 c.sc)).setCell ⟨k6, 3, none⟩ (.int .i64 c.tr)).setCell ⟨k6, 4, none⟩ (.slice Ad3 c.dm.length cd3)).setCell ⟨k6, 5, none⟩ (.slice Ao3 c.op.length co3)).setCell ⟨k6, 6, none⟩ (.bool c.is)).setCell ⟨k6, 7, none⟩ (.slice Ai3 c.ip.length ci3)).setCell ⟨k6, 8, none⟩ (.int .i64 c.dx)).setCell ⟨k6, 9, none⟩ (.int .i64 c.dy)).setCell ⟨k6, 10, none⟩ (.slice Ac3 c.cb.length cc3) = u5 at *
          clear q0 q1 q2 q3 q4 q5 q6 q7 q8 q9 q10 qf ql sk
          have sk := And.intro (show HO w _ ([_, _, _, _, _, _, _] ++ boxO w.heap.size [_, _, _, _, _, _, _, _, _, _, _] :: _) from J.out).c11c (show HO w _ ([_, _, _, _, _, _] ++ boxO (w.heap.size + 1) [_, _, _, _, _, _, _, _, _, _, _] :: _) from J.out).c11c
          refine hK.out _ _ sk (fun hHeld2 => ?_)
          clear hK K hHeld
          have hHeld := hHeld2
          clear hHeld2
          try simp only [Act.put, List.setIfInBounds_toArray, List.set_cons_zero, List.set_cons_succ]
          refine wpAnyH_ready (rs := [7]) (by kernel_rfl) (by simp) (AllReadyH.cons (o := ({ dst := none, op := Go.Op.store 28 (Go.Operand.tmp 7) (Go.Operand.tmp 13), type := 0, pos := "ref.go:65", after := #[{ on := 5, ground := Go.Ground.data }, { on := 3, ground := Go.Ground.data }, { on := 6, ground := Go.Ground.chain }, { on := 0, ground := Go.Ground.phase }, { on := 1, ground := Go.Ground.phase }, { on := 2, ground := Go.Ground.phase }, { on := 3, ground := Go.Ground.phase }, { on := 4, ground := Go.Ground.phase }, { on := 5, ground := Go.Ground.phase }, { on := 6, ground := Go.Ground.phase }], guard := none } : Oper)) rfl (fun K hK => ?_) AllReadyH.nil)
          obtain ⟨q0, q1, q2, q3, q4, q5, q6, q7, q8, q9, q10, qf, ql⟩ := (show HO w u5 ([_, _, _, _] ++ boxO k7 [_, _, _, _, _, _, _, _, _, _, _] :: _) from J.out).c11
          go_simp
          replace J := Lib.hid ((show HO w u5 ([_, _, _, _] ++ boxO k7 [_, _, _, _, _, _, _, _, _, _, _] :: _) from J.out).set11 (.int .i64 p.set) (.slice A4 n2 c4) (.int .i64 p.sc) (.int .i64 p.tr) (.slice Ad4 p.dm.length cd4) (.slice Ao4 p.op.length co4) (.bool p.is) (.slice Ai4 p.ip.length ci4) (.int .i64 p.dx) (.int .i64 p.dy) (.slice Ac4 p.cb.length cc4))
          generalize ((((((((((u5.setCell ⟨k7, 0, none⟩ (.int .i64 p.set)).setCell ⟨k7, 1, none⟩ (.slice A4 n2 c4)).setCell ⟨k7, 2, none⟩ (.int .i64 p.sc)).setCell ⟨k7, 3, none⟩ (.int .i64 p.tr)).setCell ⟨k7, 4, none⟩ (.slice Ad4 p.dm.length cd4)).setCell ⟨k7, 5, none⟩ (.slice Ao4 p.op.length co4)).setCell ⟨k7, 6, none⟩ (.bool p.is)).setCell ⟨k7, 7, none⟩ (.slice Ai4 p.ip.length ci4)).setCell ⟨k7, 8, none⟩ (.int .i64 p.dx)).setCell ⟨k7, 9, none⟩ (.int .i64 p.dy)).setCell ⟨k7, 10, none⟩ (.slice Ac4 p.cb.length cc4) = u6 at *
          clear q0 q1 q2 q3 q4 q5 q6 q7 q8 q9 q10 qf ql sk
          have sk := And.intro (show HO w _ ([_, _, _, _, _, _, _] ++ boxO w.heap.size [_, _, _, _, _, _, _, _, _, _, _] :: _) from J.out).c11c (show HO w _ ([_, _, _, _, _, _] ++ boxO (w.heap.size + 1) [_, _, _, _, _, _, _, _, _, _, _] :: _) from J.out).c11c
          refine hK.out _ _ sk (fun hHeld2 => ?_)
          clear hK K hHeld
          have hHeld := hHeld2
          clear hHeld2
          try simp only [Act.put, List.setIfInBounds_toArray, List.set_cons_zero, List.set_cons_succ]
          refine wpAnyH_done (by kernel_rfl) ?_ _
          clear sk
          replace J := Lib.hid (show HO w _ ([_] ++ _ :: _) from J.out).front
          replace J := Lib.hid (show HO w _ ([_, _, _] ++ _ :: _) from J.out).front
          replace J := Lib.hid (show HO w _ ([_, _, _] ++ _ :: _) from J.out).front
          replace J := Lib.hid (show HO w _ ([_, _, _, _] ++ _ :: _) from J.out).front
          replace J := Lib.hid (show HO w _ ([_, _, _, _] ++ _ :: _) from J.out).front
          go_wp2_with fail
          go_meet
          case rel => exact ⟨k6, k7, b3, b4, M3, M4, A3, c3, Ad3, cd3, Ao3, co3, Ai3, ci3, Ac3, cc3, A4, c4, Ad4, cd4, Ao4, co4, Ai4, ci4, Ac4, cc4, rfl, rfl, Lib.hid ⟨HL3.out, HL4.out⟩, J⟩
        · go_simp
          replace J := Lib.hid (J.out.alloc [.int .i64 0, .slice none 0 0, .int .i64 0, .int .i64 0, .slice none 0 0, .slice none 0 0, .bool false, .slice none 0 0, .int .i64 0, .int .i64 0, .slice none 0 0] 28)
          generalize u2.alloc (.cells #[.int .i64 0, .slice none 0 0, .int .i64 0, .int .i64 0, .slice none 0 0, .slice none 0 0, .bool false, .slice none 0 0, .int .i64 0, .int .i64 0, .slice none 0 0] 28) = u3 at *
          generalize u2.heap.size = k6 at *
          clear sk
          have sk := And.intro (show HO w _ ([_, _, _, _, _, _] ++ boxO w.heap.size [_, _, _, _, _, _, _, _, _, _, _] :: _) from J.out).c11c (show HO w _ ([_, _, _, _, _] ++ boxO (w.heap.size + 1) [_, _, _, _, _, _, _, _, _, _, _] :: _) from J.out).c11c
          refine hK.out _ _ sk (fun hHeld2 => ?_)
          clear hK K hHeld
          have hHeld := hHeld2
          clear hHeld2
          try simp only [Act.put, List.setIfInBounds_toArray, List.set_cons_zero, List.set_cons_succ]
          refine wpAnyH_ready (rs := [3]) (by kernel_rfl) (by simp) (AllReadyH.cons (o := ({ dst := some 13, op := Go.Op.call { callee := Go.Callee.value (Go.Operand.func 35), args := #[Go.Operand.tmp 12], argTypes := #[28] }, type := 28, pos := "ref.go:65", after := #[{ on := 2, ground := Go.Ground.data }, { on := 1, ground := Go.Ground.chain }], guard := none } : Oper)) rfl (fun K hK => ?_) AllReadyH.nil)
          go_simp
          refine (CC2 _ J.out.below).out.mono ?_
          rintro e u4 ⟨M4, vb4, vd4, vo4, vi4, vc4, rfl, hL4, hho⟩
          have HL4 := Lib.hid (hL4.trans HE2.out)
          have hst := rowsO_st HL4.out hho
          obtain ⟨A4, c4, hv1, -, -⟩ := hst.bf.shape
          obtain ⟨Ad4, cd4, hv2, -, -⟩ := hst.dm.shape
          obtain ⟨Ao4, co4, hv3, -, -⟩ := hst.op.shape
          obtain ⟨Ai4, ci4, hv4, -, -⟩ := hst.ip.shape
          obtain ⟨Ac4, cc4, hv5, -, -⟩ := hst.cb.shape
          have hlen4 : M4.length = n2 := by rw [← HN2.out, ← List.length_map, HL4.out]
          rw [hlen4] at hv1
          subst hv1 hv2 hv3 hv4 hv5
          replace J := Lib.hid (J.out.bundle hho)
          generalize u3.heap.size = b4 at *
          clear hho hL4 hst sk hlen4
          have sk := And.intro (show HO w _ ([_, _, _, _, _, _, _] ++ boxO w.heap.size [_, _, _, _, _, _, _, _, _, _, _] :: _) from J.out).c11c (show HO w _ ([_, _, _, _, _, _] ++ boxO (w.heap.size + 1) [_, _, _, _, _, _, _, _, _, _, _] :: _) from J.out).c11c
          refine hK.out _ _ sk (fun hHeld2 => ?_)
          clear hK K hHeld
          have hHeld := hHeld2
          clear hHeld2
          try simp only [Act.put, List.setIfInBounds_toArray, List.set_cons_zero, List.set_cons_succ]
          refine wpAnyH_ready (rs := [6]) (by kernel_rfl) (by simp) (AllReadyH.cons (o := ({ dst := none, op := Go.Op.store 28 (Go.Operand.tmp 6) (Go.Operand.tmp 11), type := 0, pos := "ref.go:65", after := #[{ on := 4, ground := Go.Ground.data }, { on := 1, ground := Go.Ground.data }, { on := 3, ground := Go.Ground.chain }, { on := 0, ground := Go.Ground.phase }, { on := 1, ground := Go.Ground.phase }, { on := 2, ground := Go.Ground.textOnly Go.Departure.lateStores }, { on := 3, ground := Go.Ground.textOnly Go.Departure.lateStoresUnsure }, { on := 4, ground := Go.Ground.phase }, { on := 5, ground := Go.Ground.phase }], guard := none } : Oper)) rfl (fun K hK => ?_) AllReadyH.nil)
          obtain ⟨q0, q1, q2, q3, q4, q5, q6, q7, q8, q9, q10, qf, ql⟩ := (show HO w u4 ([_] ++ boxO k6 [_, _, _, _, _, _, _, _, _, _, _] :: _) from J.out).c11
          go_simp
          replace J := Lib.hid ((show HO w u4 ([_] ++ boxO k6 [_, _, _, _, _, _, _, _, _, _, _] :: _) from J.out).set11 (.int .i64 c.set) (.slice A3 n1 c3) (.int .i64 c.sc) (.int .i64 c.tr) (.slice Ad3 c.dm.length cd3) (.slice Ao3 c.op.length co3) (.bool c.is) (.slice Ai3 c.ip.length ci3) (.int .i64 c.dx) (.int .i64 c.dy) (.slice Ac3 c.cb.length cc3))
          generalize ((((((((((u4.setCell ⟨k6, 0, none⟩ (.int .i64 c.set)).setCell ⟨k6, 1, none⟩ (.slice A3 n1 c3)).setCell ⟨k6, 2, none⟩ (.int .i64 c.sc)).setCell ⟨k6, 3, none⟩ (.int .i64 c.tr)).setCell ⟨k6, 4, none⟩ (.slice Ad3 c.dm.length cd3)).setCell ⟨k6, 5, none⟩ (.slice Ao3 c.op.length co3)).setCell ⟨k6, 6, none⟩ (.bool c.is)).setCell ⟨k6, 7, none⟩ (.slice Ai3 c.ip.length ci3)).setCell ⟨k6, 8, none⟩ (.int .i64 c.dx)).setCell ⟨k6, 9, none⟩ (.int .i64 c.dy)).setCell ⟨k6, 10, none⟩ (.slice Ac3 c.cb.length cc3) = u5 at *
          clear q0 q1 q2 q3 q4 q5 q6 q7 q8 q9 q10 qf ql sk
          have sk := And.intro (show HO w _ ([_, _, _, _, _, _, _] ++ boxO w.heap.size [_, _, _, _, _, _, _, _, _, _, _] :: _) from J.out).c11c (show HO w _ ([_, _, _, _, _, _] ++ boxO (w.heap.size + 1) [_, _, _, _, _, _, _, _, _, _, _] :: _) from J.out).c11c
          refine hK.out _ _ sk (fun hHeld2 => ?_)
          clear hK K hHeld
          have hHeld := hHeld2
          clear hHeld2
          try simp only [Act.put, List.setIfInBounds_toArray, List.set_cons_zero, List.set_cons_succ]
          refine wpAnyH_ready (rs := [7]) (by kernel_rfl) (by simp) (AllReadyH.cons (o := ({ dst := none, op := Go.Op.store 28 (Go.Operand.tmp 7) (Go.Operand.tmp 13), type := 0, pos := "ref.go:65", after := #[{ on := 5, ground := Go.Ground.data }, { on := 3, ground := Go.Ground.data }, { on := 6, ground := Go.Ground.chain }, { on := 0, ground := Go.Ground.phase }, { on := 1, ground := Go.Ground.phase }, { on := 2, ground := Go.Ground.phase }, { on := 3, ground := Go.Ground.phase }, { on := 4, ground := Go.Ground.phase }, { on := 5, ground := Go.Ground.phase }, { on := 6, ground := Go.Ground.phase }], guard := none } : Oper)) rfl (fun K hK => ?_) AllReadyH.nil)
          obtain ⟨q0, q1, q2, q3, q4, q5, q6, q7, q8, q9, q10, qf, ql⟩ := (show HO w u5 ([_, _, _, _] ++ boxO k7 [_, _, _, _, _, _, _, _, _, _, _] :: _) from J.out).c11
          go_simp
          replace J := Lib.hid ((show HO w u5 ([_, _, _, _] ++ boxO k7 [_, _, _, _, _, _, _, _, _, _, _] :: _) from J.out).set11 (.int .i64 p.set) (.slice A4 n2 c4) (.int .i64 p.sc) (.int .i64 p.tr) (.slice Ad4 p.dm.length cd4) (.slice Ao4 p.op.length co4) (.bool p.is) (.slice Ai4 p.ip.length ci4) (.int .i64 p.dx) (.int .i64 p.dy) (.slice Ac4 p.cb.length cc4))
          generalize ((((((((((u5.setCell ⟨k7, 0, none⟩ (.int .i64 p.set)).setCell ⟨k7, 1, none⟩ (.slice A4 n2 c4)).setCell ⟨k7, 2, none⟩ (.int .i64 p.sc)).setCell ⟨k7, 3, none⟩ (.int .i64 p.tr)).setCell ⟨k7, 4, none⟩ (.slice Ad4 p.dm.length cd4)).setCell ⟨k7, 5, none⟩ (.slice Ao4 p.op.length co4)).setCell ⟨k7, 6, none⟩ (.bool p.is)).setCell ⟨k7, 7, none⟩ (.slice Ai4 p.ip.length ci4)).setCell ⟨k7, 8, none⟩ (.int .i64 p.dx)).setCell ⟨k7, 9, none⟩ (.int .i64 p.dy)).setCell ⟨k7, 10, none⟩ (.slice Ac4 p.cb.length cc4) = u6 at *
          clear q0 q1 q2 q3 q4 q5 q6 q7 q8 q9 q10 qf ql sk
          have sk := And.intro (show HO w _ ([_, _, _, _, _, _, _] ++ boxO w.heap.size [_, _, _, _, _, _, _, _, _, _, _] :: _) from J.out).c11c (show HO w _ ([_, _, _, _, _, _] ++ boxO (w.heap.size + 1) [_, _, _, _, _, _, _, _, _, _, _] :: _) from J.out).c11c
          refine hK.out _ _ sk (fun hHeld2 => ?_)
          clear hK K hHeld
          have hHeld := hHeld2
          clear hHeld2
          try simp only [Act.put, List.setIfInBounds_toArray, List.set_cons_zero, List.set_cons_succ]
          refine wpAnyH_done (by kernel_rfl) ?_ _
          clear sk
          replace J := Lib.hid (show HO w _ ([_, _, _] ++ _ :: _) from J.out).front
          replace J := Lib.hid (show HO w _ ([_, _, _] ++ _ :: _) from J.out).front
          replace J := Lib.hid (show HO w _ ([_, _, _, _] ++ _ :: _) from J.out).front
          replace J := Lib.hid (show HO w _ ([_, _, _, _] ++ _ :: _) from J.out).front
          go_wp2_with fail
          go_meet
          case rel => exact ⟨k6, k7, b3, b4, M3, M4, A3, c3, Ad3, cd3, Ao3, co3, Ai3, ci3, Ac3, cc3, A4, c4, Ad4, cd4, Ao4, co4, Ai4, ci4, Ac4, cc4, rfl, rfl, Lib.hid ⟨HL3.out, HL4.out⟩, J⟩
      · go_simp
        replace J := Lib.hid (J.out.alloc [.int .i64 0, .slice none 0 0, .int .i64 0, .int .i64 0, .slice none 0 0, .slice none 0 0, .bool false, .slice none 0 0, .int .i64 0, .int .i64 0, .slice none 0 0] 28)
        generalize u1.alloc (.cells #[.int .i64 0, .slice none 0 0, .int .i64 0, .int .i64 0, .slice none 0 0, .slice none 0 0, .bool false, .slice none 0 0, .int .i64 0, .int .i64 0, .slice none 0 0] 28) = u2 at *
        generalize u1.heap.size = k6 at *
        clear sk
        have sk := And.intro (show HO w _ ([_, _, _, _] ++ boxO w.heap.size [_, _, _, _, _, _, _, _, _, _, _] :: _) from J.out).c11c (show HO w _ ([_, _, _] ++ boxO (w.heap.size + 1) [_, _, _, _, _, _, _, _, _, _, _] :: _) from J.out).c11c
        refine hK.out _ _ sk (fun hHeld2 => ?_)
        clear hK K hHeld
        have hHeld := hHeld2
        clear hHeld2
        try simp only [Act.put, List.setIfInBounds_toArray, List.set_cons_zero, List.set_cons_succ]
        refine wpAnyH_ready (rs := [1]) (by kernel_rfl) (by simp) (AllReadyH.cons (o := ({ dst := some 11, op := Go.Op.call { callee := Go.Callee.value (Go.Operand.func 35), args := #[Go.Operand.tmp 10], argTypes := #[28] }, type := 28, pos := "ref.go:65", after := #[{ on := 0, ground := Go.Ground.data }], guard := none } : Oper)) rfl (fun K hK => ?_) AllReadyH.nil)
        go_simp
        refine (CC1 _ J.out.below).out.mono ?_
        rintro e u3 ⟨M3, vb3, vd3, vo3, vi3, vc3, rfl, hL3, hho⟩
        have HL3 := Lib.hid (hL3.trans HE1.out)
        have hst := rowsO_st HL3.out hho
        obtain ⟨A3, c3, hv1, -, -⟩ := hst.bf.shape
        obtain ⟨Ad3, cd3, hv2, -, -⟩ := hst.dm.shape
        obtain ⟨Ao3, co3, hv3, -, -⟩ := hst.op.shape
        obtain ⟨Ai3, ci3, hv4, -, -⟩ := hst.ip.shape
        obtain ⟨Ac3, cc3, hv5, -, -⟩ := hst.cb.shape
        have hlen3 : M3.length = n1 := by rw [← HN1.out, ← List.length_map, HL3.out]
        rw [hlen3] at hv1
        subst hv1 hv2 hv3 hv4 hv5
        replace J := Lib.hid (J.out.bundle1 hho)
        generalize u2.heap.size = b3 at *
        clear hho hL3 hst sk hlen3
        have sk := And.intro (show HO w _ ([_, _, _, _, _, _] ++ boxO w.heap.size [_, _, _, _, _, _, _, _, _, _, _] :: _) from J.out).c11c (show HO w _ ([_, _, _, _, _] ++ boxO (w.heap.size + 1) [_, _, _, _, _, _, _, _, _, _, _] :: _) from J.out).c11c
        refine hK.out _ _ sk (fun hHeld2 => ?_)
        clear hK K hHeld
        have hHeld := hHeld2
        clear hHeld2
        try simp only [Act.put, List.setIfInBounds_toArray, List.set_cons_zero, List.set_cons_succ]
        refine wpAnyH_ready (rs := [3]) (by kernel_rfl) (by simp) (AllReadyH.cons (o := ({ dst := some 13, op := Go.Op.call { callee := Go.Callee.value (Go.Operand.func 35), args := #[Go.Operand.tmp 12], argTypes := #[28] }, type := 28, pos := "ref.go:65", after := #[{ on := 2, ground := Go.Ground.data }, { on := 1, ground := Go.Ground.chain }], guard := none } : Oper)) rfl (fun K hK => ?_) AllReadyH.nil)
        go_simp
        refine (CC2 _ J.out.below).out.mono ?_
        rintro e u4 ⟨M4, vb4, vd4, vo4, vi4, vc4, rfl, hL4, hho⟩
        have HL4 := Lib.hid (hL4.trans HE2.out)
        have hst := rowsO_st HL4.out hho
        obtain ⟨A4, c4, hv1, -, -⟩ := hst.bf.shape
        obtain ⟨Ad4, cd4, hv2, -, -⟩ := hst.dm.shape
        obtain ⟨Ao4, co4, hv3, -, -⟩ := hst.op.shape
        obtain ⟨Ai4, ci4, hv4, -, -⟩ := hst.ip.shape
        obtain ⟨Ac4, cc4, hv5, -, -⟩ := hst.cb.shape
        have hlen4 : M4.length = n2 := by rw [← HN2.out, ← List.length_map, HL4.out]
        rw [hlen4] at hv1
        subst hv1 hv2 hv3 hv4 hv5
        replace J := Lib.hid (J.out.bundle hho)
        generalize u3.heap.size = b4 at *
        clear hho hL4 hst sk hlen4
        have sk := And.intro (show HO w _ ([_, _, _, _, _, _, _] ++ boxO w.heap.size [_, _, _, _, _, _, _, _, _, _, _] :: _) from J.out).c11c (show HO w _ ([_, _, _, _, _, _] ++ boxO (w.heap.size + 1) [_, _, _, _, _, _, _, _, _, _, _] :: _) from J.out).c11c
        refine hK.out _ _ sk (fun hHeld2 => ?_)
        clear hK K hHeld
        have hHeld := hHeld2
        clear hHeld2
        try simp only [Act.put, List.setIfInBounds_toArray, List.set_cons_zero, List.set_cons_succ]
        refine wpAnyH_ready (rs := [6]) (by kernel_rfl) (by simp) (AllReadyH.cons (o := ({ dst := none, op := Go.Op.store 28 (Go.Operand.tmp 6) (Go.Operand.tmp 11), type := 0, pos := "ref.go:65", after := #[{ on := 4, ground := Go.Ground.data }, { on := 1, ground := Go.Ground.data }, { on := 3, ground := Go.Ground.chain }, { on := 0, ground := Go.Ground.phase }, { on := 1, ground := Go.Ground.phase }, { on := 2, ground := Go.Ground.textOnly Go.Departure.lateStores }, { on := 3, ground := Go.Ground.textOnly Go.Departure.lateStoresUnsure }, { on := 4, ground := Go.Ground.phase }, { on := 5, ground := Go.Ground.phase }], guard := none } : Oper)) rfl (fun K hK => ?_) AllReadyH.nil)
        obtain ⟨q0, q1, q2, q3, q4, q5, q6, q7, q8, q9, q10, qf, ql⟩ := (show HO w u4 ([_, _, _] ++ boxO k6 [_, _, _, _, _, _, _, _, _, _, _] :: _) from J.out).c11
        go_simp
        replace J := Lib.hid ((show HO w u4 ([_, _, _] ++ boxO k6 [_, _, _, _, _, _, _, _, _, _, _] :: _) from J.out).set11 (.int .i64 c.set) (.slice A3 n1 c3) (.int .i64 c.sc) (.int .i64 c.tr) (.slice Ad3 c.dm.length cd3) (.slice Ao3 c.op.length co3) (.bool c.is) (.slice Ai3 c.ip.length ci3) (.int .i64 c.dx) (.int .i64 c.dy) (.slice Ac3 c.cb.length cc3))
        generalize ((((((((((u4.setCell ⟨k6, 0, none⟩ (.int .i64 c.set)).setCell ⟨k6, 1, none⟩ (.slice A3 n1 c3)).setCell ⟨k6, 2, none⟩ (.int .i64 c.sc)).setCell ⟨k6, 3, none⟩ (.int .i64 c.tr)).setCell ⟨k6, 4, none⟩ (.slice Ad3 c.dm.length cd3)).setCell ⟨k6, 5, none⟩ (.slice Ao3 c.op.length co3)).setCell ⟨k6, 6, none⟩ (.bool c.is)).setCell ⟨k6, 7, none⟩ (.slice Ai3 c.ip.length ci3)).setCell ⟨k6, 8, none⟩ (.int .i64 c.dx)).setCell ⟨k6, 9, none⟩ (.int .i64 c.dy)).setCell ⟨k6, 10, none⟩ (.slice Ac3 c.cb.length cc3) = u5 at *
        clear q0 q1 q2 q3 q4 q5 q6 q7 q8 q9 q10 qf ql sk
        have sk := And.intro (show HO w _ ([_, _, _, _, _, _, _] ++ boxO w.heap.size [_, _, _, _, _, _, _, _, _, _, _] :: _) from J.out).c11c (show HO w _ ([_, _, _, _, _, _] ++ boxO (w.heap.size + 1) [_, _, _, _, _, _, _, _, _, _, _] :: _) from J.out).c11c
        refine hK.out _ _ sk (fun hHeld2 => ?_)
        clear hK K hHeld
        have hHeld := hHeld2
        clear hHeld2
        try simp only [Act.put, List.setIfInBounds_toArray, List.set_cons_zero, List.set_cons_succ]
        refine wpAnyH_ready (rs := [7]) (by kernel_rfl) (by simp) (AllReadyH.cons (o := ({ dst := none, op := Go.Op.store 28 (Go.Operand.tmp 7) (Go.Operand.tmp 13), type := 0, pos := "ref.go:65", after := #[{ on := 5, ground := Go.Ground.data }, { on := 3, ground := Go.Ground.data }, { on := 6, ground := Go.Ground.chain }, { on := 0, ground := Go.Ground.phase }, { on := 1, ground := Go.Ground.phase }, { on := 2, ground := Go.Ground.phase }, { on := 3, ground := Go.Ground.phase }, { on := 4, ground := Go.Ground.phase }, { on := 5, ground := Go.Ground.phase }, { on := 6, ground := Go.Ground.phase }], guard := none } : Oper)) rfl (fun K hK => ?_) AllReadyH.nil)
        obtain ⟨q0, q1, q2, q3, q4, q5, q6, q7, q8, q9, q10, qf, ql⟩ := (show HO w u5 ([_, _, _, _] ++ boxO k7 [_, _, _, _, _, _, _, _, _, _, _] :: _) from J.out).c11
        go_simp
        replace J := Lib.hid ((show HO w u5 ([_, _, _, _] ++ boxO k7 [_, _, _, _, _, _, _, _, _, _, _] :: _) from J.out).set11 (.int .i64 p.set) (.slice A4 n2 c4) (.int .i64 p.sc) (.int .i64 p.tr) (.slice Ad4 p.dm.length cd4) (.slice Ao4 p.op.length co4) (.bool p.is) (.slice Ai4 p.ip.length ci4) (.int .i64 p.dx) (.int .i64 p.dy) (.slice Ac4 p.cb.length cc4))
        generalize ((((((((((u5.setCell ⟨k7, 0, none⟩ (.int .i64 p.set)).setCell ⟨k7, 1, none⟩ (.slice A4 n2 c4)).setCell ⟨k7, 2, none⟩ (.int .i64 p.sc)).setCell ⟨k7, 3, none⟩ (.int .i64 p.tr)).setCell ⟨k7, 4, none⟩ (.slice Ad4 p.dm.length cd4)).setCell ⟨k7, 5, none⟩ (.slice Ao4 p.op.length co4)).setCell ⟨k7, 6, none⟩ (.bool p.is)).setCell ⟨k7, 7, none⟩ (.slice Ai4 p.ip.length ci4)).setCell ⟨k7, 8, none⟩ (.int .i64 p.dx)).setCell ⟨k7, 9, none⟩ (.int .i64 p.dy)).setCell ⟨k7, 10, none⟩ (.slice Ac4 p.cb.length cc4) = u6 at *
        clear q0 q1 q2 q3 q4 q5 q6 q7 q8 q9 q10 qf ql sk
        have sk := And.intro (show HO w _ ([_, _, _, _, _, _, _] ++ boxO w.heap.size [_, _, _, _, _, _, _, _, _, _, _] :: _) from J.out).c11c (show HO w _ ([_, _, _, _, _, _] ++ boxO (w.heap.size + 1) [_, _, _, _, _, _, _, _, _, _, _] :: _) from J.out).c11c
        refine hK.out _ _ sk (fun hHeld2 => ?_)
        clear hK K hHeld
        have hHeld := hHeld2
        clear hHeld2
        try simp only [Act.put, List.setIfInBounds_toArray, List.set_cons_zero, List.set_cons_succ]
        refine wpAnyH_done (by kernel_rfl) ?_ _
        clear sk
        replace J := Lib.hid (show HO w _ ([_, _] ++ _ :: _) from J.out).front
        replace J := Lib.hid (show HO w _ ([_, _] ++ _ :: _) from J.out).front
        replace J := Lib.hid (show HO w _ ([_, _, _, _] ++ _ :: _) from J.out).front
        replace J := Lib.hid (show HO w _ ([_, _, _, _] ++ _ :: _) from J.out).front
        go_wp2_with fail
        go_meet
        case rel => exact ⟨k6, k7, b3, b4, M3, M4, A3, c3, Ad3, cd3, Ao3, co3, Ai3, ci3, Ac3, cc3, A4, c4, Ad4, cd4, Ao4, co4, Ai4, ci4, Ac4, cc4, rfl, rfl, Lib.hid ⟨HL3.out, HL4.out⟩, J⟩
  case rest =>
    obtain ⟨k6, k7, b3, b4, M3, M4, A3, c3, Ad3, cd3, Ao3, co3, Ai3, ci3, Ac3, cc3, A4, c4, Ad4, cd4, Ao4, co4, Ai4, ci4, Ac4, cc4, rfl, rfl, HX, J⟩ := hcut
    have HG := Lib.hid (show StF w [joinO (rowsN b3 c M3 (.slice A3 n1 c3) (.slice Ad3 c.dm.length cd3) (.slice Ao3 c.op.length co3) (.slice Ai3 c.ip.length ci3)), joinO (rowsO b4 p M4 (.slice A4 n2 c4) (.slice Ad4 p.dm.length cd4) (.slice Ao4 p.op.length co4) (.slice Ai4 p.ip.length ci4) (.slice Ac4 p.cb.length cc4))] p M4 (.slice A4 n2 c4) (.slice Ad4 p.dm.length cd4) (.slice Ao4 p.op.length co4) (.slice Ai4 p.ip.length ci4) (.slice Ac4 p.cb.length cc4) from fun W _ hr => rowsO_st2 HX.out.2 (hr (joinO (rowsO b4 p M4 (.slice A4 n2 c4) (.slice Ad4 p.dm.length cd4) (.slice Ao4 p.op.length co4) (.slice Ai4 p.ip.length ci4) (.slice Ac4 p.cb.length cc4))) (List.mem_cons_of_mem _ (List.mem_cons_self ..))))
    have HF := Lib.hid (show StF w [joinO (rowsN b3 c M3 (.slice A3 n1 c3) (.slice Ad3 c.dm.length cd3) (.slice Ao3 c.op.length co3) (.slice Ai3 c.ip.length ci3)), joinO (rowsO b4 p M4 (.slice A4 n2 c4) (.slice Ad4 p.dm.length cd4) (.slice Ao4 p.op.length co4) (.slice Ai4 p.ip.length ci4) (.slice Ac4 p.cb.length cc4))] { c with set := 0, dm := [], cb := [] } M3 (.slice A3 n1 c3) (.slice none 0 0) (.slice Ao3 c.op.length co3) (.slice Ai3 c.ip.length ci3) (.slice none 0 0) from fun W _ hr => let H := rowsN_st HX.out.1 (hr (joinO (rowsN b3 c M3 (.slice A3 n1 c3) (.slice Ad3 c.dm.length cd3) (.slice Ao3 c.op.length co3) (.slice Ai3 c.ip.length ci3))) (List.mem_cons_self ..)); ⟨H.bf, H.px, H.eq, sn_nil _ _, H.op, H.ip, H.cb⟩)
    clear HX J0 CC1 CC2
    obtain ⟨x0, x1, x2, x3, x4, x5, x6, x7, x8, x9, x10, xf, xl⟩ := (show HO w _ ([] ++ boxO k6 [_, _, _, _, _, _, _, _, _, _, _] :: _) from J.out).c11
    go_upto_region 5 with fail
    replace J := Lib.hid (J.out.alloc (stC { c with set := 0, dm := [] } (.slice A3 n1 c3) (.slice none 0 0) (.slice Ao3 c.op.length co3) (.slice Ai3 c.ip.length ci3) (.slice Ac3 c.cb.length cc3)) 28)
    generalize wc.alloc (.cells #[.int .i64 0, .slice A3 n1 c3, .int .i64 c.sc, .int .i64 c.tr, .slice none 0 0, .slice Ao3 c.op.length co3, .bool c.is, .slice Ai3 c.ip.length ci3, .int .i64 c.dx, .int .i64 c.dy, .slice Ac3 c.cb.length cc3] 28) = v0 at *
    generalize wc.heap.size = k8 at *
    clear x0 x1 x2 x3 x4 x5 x6 x7 x8 x9 x10 xf xl
    replace J := Lib.hid (show HO w v0 [boxO k8 (stC { c with set := 0, dm := [] } (.slice A3 n1 c3) (.slice none 0 0) (.slice Ao3 c.op.length co3) (.slice Ai3 c.ip.length ci3) (.slice Ac3 c.cb.length cc3)), boxO k7 (stC p (.slice A4 n2 c4) (.slice Ad4 p.dm.length cd4) (.slice Ao4 p.op.length co4) (.slice Ai4 p.ip.length ci4) (.slice Ac4 p.cb.length cc4)), rowO b3 50 1 (.slice Ac3 c.cb.length cc3) c.cb.length (uL c.cb), joinO (rowsN b3 c M3 (.slice A3 n1 c3) (.slice Ad3 c.dm.length cd3) (.slice Ao3 c.op.length co3) (.slice Ai3 c.ip.length ci3)), joinO (rowsO b4 p M4 (.slice A4 n2 c4) (.slice Ad4 p.dm.length cd4) (.slice Ao4 p.op.length co4) (.slice Ai4 p.ip.length ci4) (.slice Ac4 p.cb.length cc4)), boxO (w.heap.size + 2) [.int .i64 0, .slice none 0 0, .int .i64 0, .int .i64 0, .slice none 0 0, .slice none 0 0, .bool false, .slice none 0 0, .int .i64 0, .int .i64 0, .slice none 0 0]] from J.out.sub (.cons_cons _ (.cons _ (.cons_cons _ (.cons_cons _ (.cons_cons _ (.cons_cons _ (.cons_cons _ (.cons _ (.cons _ (List.Sublist.refl _)))))))))))
    obtain ⟨s1, L1, Ab, cb, nb, Ad, cd, nd, Ao, co, no, Ai, ci, ni, HS, HC, HF, J⟩ := (show (fun wx => ∃ (s1 : St) (L1 : List Bv) (Ab : Option Addr) (cb nb : Nat) (Ad : Option Addr) (cd nd : Nat) (Ao : Option Addr) (co no : Nat) (Ai : Option Addr) (ci ni : Nat), Hid (s1 = mrgK c p 0) ∧ Hid (s1.cb = c.cb) ∧ Hid (StF w [joinO (rowsN b3 c M3 (.slice A3 n1 c3) (.slice Ad3 c.dm.length cd3) (.slice Ao3 c.op.length co3) (.slice Ai3 c.ip.length ci3)), joinO (rowsO b4 p M4 (.slice A4 n2 c4) (.slice Ad4 p.dm.length cd4) (.slice Ao4 p.op.length co4) (.slice Ai4 p.ip.length ci4) (.slice Ac4 p.cb.length cc4))] { s1 with cb := [] } L1 (.slice Ab nb cb) (.slice Ad nd cd) (.slice Ao no co) (.slice Ai ni ci) (.slice none 0 0)) ∧ Hid (HO w wx [boxO k8 (stC s1 (.slice Ab nb cb) (.slice Ad nd cd) (.slice Ao no co) (.slice Ai ni ci) (.slice Ac3 c.cb.length cc3)), boxO k7 (stC p (.slice A4 n2 c4) (.slice Ad4 p.dm.length cd4) (.slice Ao4 p.op.length co4) (.slice Ai4 p.ip.length ci4) (.slice Ac4 p.cb.length cc4)), rowO b3 50 1 (.slice Ac3 c.cb.length cc3) c.cb.length (uL c.cb), joinO (rowsN b3 c M3 (.slice A3 n1 c3) (.slice Ad3 c.dm.length cd3) (.slice Ao3 c.op.length co3) (.slice Ai3 c.ip.length ci3)), joinO (rowsO b4 p M4 (.slice A4 n2 c4) (.slice Ad4 p.dm.length cd4) (.slice Ao4 p.op.length co4) (.slice Ai4 p.ip.length ci4) (.slice Ac4 p.cb.length cc4)), boxO (w.heap.size + 2) [.int .i64 0, .slice none 0 0, .int .i64 0, .int .i64 0, .slice none 0 0, .slice none 0 0, .bool false, .slice none 0 0, .int .i64 0, .int .i64 0, .slice none 0 0]])) v0 from ⟨{ c with set := 0, dm := [] }, M3, A3, c3, n1, none, 0, 0, Ao3, co3, c.op.length, Ai3, ci3, c.ip.length, Lib.hid rfl, Lib.hid rfl, HF, J⟩)
    have HB := Lib.hid (show bitB p.set 1 = decide (bits .and .i64 p.set 1 ≠ 0) from rfl)
    obtain ⟨B, hB⟩ : ∃ B, bits .and .i64 p.set 1 = B := ⟨_, rfl⟩
    rw [hB] at HB
    have HK := Lib.hid (show mrgK c p 1 = if bitB p.set 1 = true then stpS 0 c p (mrgK c p 0) else mrgK c p 0 from rfl)
    have p0 := (show HO w _ ([_] ++ boxO k7 [_, _, _, _, _, _, _, _, _, _, _] :: _) from J.out).c 0 rfl
    go_upto_if 20 with (fail)
    go_cut [] from 15 (fun wx => ∃ (s1 : St) (L1 : List Bv) (Ab : Option Addr) (cb nb : Nat) (Ad : Option Addr) (cd nd : Nat) (Ao : Option Addr) (co no : Nat) (Ai : Option Addr) (ci ni : Nat), Hid (s1 = mrgK c p 1) ∧ Hid (s1.cb = c.cb) ∧ Hid (StF w [joinO (rowsN b3 c M3 (.slice A3 n1 c3) (.slice Ad3 c.dm.length cd3) (.slice Ao3 c.op.length co3) (.slice Ai3 c.ip.length ci3)), joinO (rowsO b4 p M4 (.slice A4 n2 c4) (.slice Ad4 p.dm.length cd4) (.slice Ao4 p.op.length co4) (.slice Ai4 p.ip.length ci4) (.slice Ac4 p.cb.length cc4))] { s1 with cb := [] } L1 (.slice Ab nb cb) (.slice Ad nd cd) (.slice Ao no co) (.slice Ai ni ci) (.slice none 0 0)) ∧ Hid (HO w wx [boxO k8 (stC s1 (.slice Ab nb cb) (.slice Ad nd cd) (.slice Ao no co) (.slice Ai ni ci) (.slice Ac3 c.cb.length cc3)), boxO k7 (stC p (.slice A4 n2 c4) (.slice Ad4 p.dm.length cd4) (.slice Ao4 p.op.length co4) (.slice Ai4 p.ip.length ci4) (.slice Ac4 p.cb.length cc4)), rowO b3 50 1 (.slice Ac3 c.cb.length cc3) c.cb.length (uL c.cb), joinO (rowsN b3 c M3 (.slice A3 n1 c3) (.slice Ad3 c.dm.length cd3) (.slice Ao3 c.op.length co3) (.slice Ai3 c.ip.length ci3)), joinO (rowsO b4 p M4 (.slice A4 n2 c4) (.slice Ad4 p.dm.length cd4) (.slice Ao4 p.op.length co4) (.slice Ai4 p.ip.length ci4) (.slice Ac4 p.cb.length cc4)), boxO (w.heap.size + 2) [.int .i64 0, .slice none 0 0, .int .i64 0, .int .i64 0, .slice none 0 0, .slice none 0 0, .bool false, .slice none 0 0, .int .i64 0, .int .i64 0, .slice none 0 0]]))
    case first =>
      by_cases hz : B = 0
      · subst hz
        have HK2 := Lib.hid (show mrgK c p 1 = mrgK c p 0 from by rw [HK.out, HB.out]; simp)
        clear HB HK
        go_wp2_with fail
        go_meet
        case rel => exact ⟨s1, L1, Ab, cb, nb, Ad, cd, nd, Ao, co, no, Ai, ci, ni, Lib.hid (by rw [HK2.out, HS.out]), HC, HF, J⟩
      · have hz2 : (B == 0) = false := by simpa using hz
        have HK2 := Lib.hid (show mrgK c p 1 = stpS 0 c p (mrgK c p 0) from by rw [HK.out, HB.out]; simp [hz])
        clear HB HK
        obtain ⟨x0, x1, x2, x3, x4, x5, x6, x7, x8, x9, x10, xf, xl⟩ := (show HO w _ ([] ++ boxO k8 [_, _, _, _, _, _, _, _, _, _, _] :: _) from J.out).c11
        obtain ⟨y0, y1, y2, y3, y4, y5, y6, y7, y8, y9, y10, yf, yl⟩ := (show HO w _ ([_] ++ boxO k7 [_, _, _, _, _, _, _, _, _, _, _] :: _) from J.out).c11
        replace J := Lib.hid ((show HO w _ ([] ++ boxO k8 [_, _, _, _, _, _, _, _, _, _, _] :: _) from J.out).cell (i := 1) (by simp) (.slice A4 n2 c4))
        go_wp2_with fail
        go_meet
        case rel => exact ⟨stpS 0 c p s1, M4, A4, c4, n2, Ad, cd, nd, Ao, co, no, Ai, ci, ni, Lib.hid (by rw [HK2.out, HS.out]), HC, Lib.hid (StF.bf2 (c := c) (p := p) (s := { s1 with cb := [] }) HF.out HG.out), J⟩
    case rest =>
      clear J p0 HB HK HS HC HF
      obtain ⟨s1, L1, Ab, cb, nb, Ad, cd, nd, Ao, co, no, Ai, ci, ni, HS, HC, HF, J⟩ := hcut
      have HB := Lib.hid (show bitB p.set 2 = decide (bits .and .i64 p.set 2 ≠ 0) from rfl)
      obtain ⟨B, hB⟩ : ∃ B, bits .and .i64 p.set 2 = B := ⟨_, rfl⟩
      rw [hB] at HB
      have HK := Lib.hid (show mrgK c p 2 = if bitB p.set 2 = true then stpS 1 c p (mrgK c p 1) else mrgK c p 1 from rfl)
      have p0 := (show HO w _ ([_] ++ boxO k7 [_, _, _, _, _, _, _, _, _, _, _] :: _) from J.out).c 0 rfl
      go_upto_if 27 with (fail)
      go_cut [] from 15 (fun wx => ∃ (s1 : St) (L1 : List Bv) (Ab : Option Addr) (cb nb : Nat) (Ad : Option Addr) (cd nd : Nat) (Ao : Option Addr) (co no : Nat) (Ai : Option Addr) (ci ni : Nat), Hid (s1 = mrgK c p 2) ∧ Hid (s1.cb = c.cb) ∧ Hid (StF w [joinO (rowsN b3 c M3 (.slice A3 n1 c3) (.slice Ad3 c.dm.length cd3) (.slice Ao3 c.op.length co3) (.slice Ai3 c.ip.length ci3)), joinO (rowsO b4 p M4 (.slice A4 n2 c4) (.slice Ad4 p.dm.length cd4) (.slice Ao4 p.op.length co4) (.slice Ai4 p.ip.length ci4) (.slice Ac4 p.cb.length cc4))] { s1 with cb := [] } L1 (.slice Ab nb cb) (.slice Ad nd cd) (.slice Ao no co) (.slice Ai ni ci) (.slice none 0 0)) ∧ Hid (HO w wx [boxO k8 (stC s1 (.slice Ab nb cb) (.slice Ad nd cd) (.slice Ao no co) (.slice Ai ni ci) (.slice Ac3 c.cb.length cc3)), boxO k7 (stC p (.slice A4 n2 c4) (.slice Ad4 p.dm.length cd4) (.slice Ao4 p.op.length co4) (.slice Ai4 p.ip.length ci4) (.slice Ac4 p.cb.length cc4)), rowO b3 50 1 (.slice Ac3 c.cb.length cc3) c.cb.length (uL c.cb), joinO (rowsN b3 c M3 (.slice A3 n1 c3) (.slice Ad3 c.dm.length cd3) (.slice Ao3 c.op.length co3) (.slice Ai3 c.ip.length ci3)), joinO (rowsO b4 p M4 (.slice A4 n2 c4) (.slice Ad4 p.dm.length cd4) (.slice Ao4 p.op.length co4) (.slice Ai4 p.ip.length ci4) (.slice Ac4 p.cb.length cc4)), boxO (w.heap.size + 2) [.int .i64 0, .slice none 0 0, .int .i64 0, .int .i64 0, .slice none 0 0, .slice none 0 0, .bool false, .slice none 0 0, .int .i64 0, .int .i64 0, .slice none 0 0]]))
      case first =>
        by_cases hz : B = 0
        · subst hz
          have HK2 := Lib.hid (show mrgK c p 2 = mrgK c p 1 from by rw [HK.out, HB.out]; simp)
          clear HB HK
          go_wp2_with fail
          go_meet
          case rel => exact ⟨s1, L1, Ab, cb, nb, Ad, cd, nd, Ao, co, no, Ai, ci, ni, Lib.hid (by rw [HK2.out, HS.out]), HC, HF, J⟩
        · have hz2 : (B == 0) = false := by simpa using hz
          have HK2 := Lib.hid (show mrgK c p 2 = stpS 1 c p (mrgK c p 1) from by rw [HK.out, HB.out]; simp [hz])
          clear HB HK
          obtain ⟨x0, x1, x2, x3, x4, x5, x6, x7, x8, x9, x10, xf, xl⟩ := (show HO w _ ([] ++ boxO k8 [_, _, _, _, _, _, _, _, _, _, _] :: _) from J.out).c11
          obtain ⟨y0, y1, y2, y3, y4, y5, y6, y7, y8, y9, y10, yf, yl⟩ := (show HO w _ ([_] ++ boxO k7 [_, _, _, _, _, _, _, _, _, _, _] :: _) from J.out).c11
          replace J := Lib.hid ((show HO w _ ([] ++ boxO k8 [_, _, _, _, _, _, _, _, _, _, _] :: _) from J.out).cell (i := 2) (by simp) (.int .i64 p.sc))
          go_wp2_with fail
          go_meet
          case rel => exact ⟨stpS 1 c p s1, L1, Ab, cb, nb, Ad, cd, nd, Ao, co, no, Ai, ci, ni, Lib.hid (by rw [HK2.out, HS.out]), HC, Lib.hid (StF.sc2 (c := c) (p := p) (s := { s1 with cb := [] }) HF.out HG.out), J⟩
      case rest =>
        clear J p0 HB HK HS HC HF
        obtain ⟨s1, L1, Ab, cb, nb, Ad, cd, nd, Ao, co, no, Ai, ci, ni, HS, HC, HF, J⟩ := hcut
        have HB := Lib.hid (show bitB p.set 4 = decide (bits .and .i64 p.set 4 ≠ 0) from rfl)
        obtain ⟨B, hB⟩ : ∃ B, bits .and .i64 p.set 4 = B := ⟨_, rfl⟩
        rw [hB] at HB
        have HK := Lib.hid (show mrgK c p 3 = if bitB p.set 4 = true then stpS 2 c p (mrgK c p 2) else mrgK c p 2 from rfl)
        have p0 := (show HO w _ ([_] ++ boxO k7 [_, _, _, _, _, _, _, _, _, _, _] :: _) from J.out).c 0 rfl
        go_upto_if 34 with (fail)
        go_cut [] from 15 (fun wx => ∃ (s1 : St) (L1 : List Bv) (Ab : Option Addr) (cb nb : Nat) (Ad : Option Addr) (cd nd : Nat) (Ao : Option Addr) (co no : Nat) (Ai : Option Addr) (ci ni : Nat), Hid (s1 = mrgK c p 3) ∧ Hid (s1.cb = c.cb) ∧ Hid (StF w [joinO (rowsN b3 c M3 (.slice A3 n1 c3) (.slice Ad3 c.dm.length cd3) (.slice Ao3 c.op.length co3) (.slice Ai3 c.ip.length ci3)), joinO (rowsO b4 p M4 (.slice A4 n2 c4) (.slice Ad4 p.dm.length cd4) (.slice Ao4 p.op.length co4) (.slice Ai4 p.ip.length ci4) (.slice Ac4 p.cb.length cc4))] { s1 with cb := [] } L1 (.slice Ab nb cb) (.slice Ad nd cd) (.slice Ao no co) (.slice Ai ni ci) (.slice none 0 0)) ∧ Hid (HO w wx [boxO k8 (stC s1 (.slice Ab nb cb) (.slice Ad nd cd) (.slice Ao no co) (.slice Ai ni ci) (.slice Ac3 c.cb.length cc3)), boxO k7 (stC p (.slice A4 n2 c4) (.slice Ad4 p.dm.length cd4) (.slice Ao4 p.op.length co4) (.slice Ai4 p.ip.length ci4) (.slice Ac4 p.cb.length cc4)), rowO b3 50 1 (.slice Ac3 c.cb.length cc3) c.cb.length (uL c.cb), joinO (rowsN b3 c M3 (.slice A3 n1 c3) (.slice Ad3 c.dm.length cd3) (.slice Ao3 c.op.length co3) (.slice Ai3 c.ip.length ci3)), joinO (rowsO b4 p M4 (.slice A4 n2 c4) (.slice Ad4 p.dm.length cd4) (.slice Ao4 p.op.length co4) (.slice Ai4 p.ip.length ci4) (.slice Ac4 p.cb.length cc4)), boxO (w.heap.size + 2) [.int .i64 0, .slice none 0 0, .int .i64 0, .int .i64 0, .slice none 0 0, .slice none 0 0, .bool false, .slice none 0 0, .int .i64 0, .int .i64 0, .slice none 0 0]]))
        case first =>
          by_cases hz : B = 0
          · subst hz
            have HK2 := Lib.hid (show mrgK c p 3 = mrgK c p 2 from by rw [HK.out, HB.out]; simp)
            clear HB HK
            go_wp2_with fail
            go_meet
            case rel => exact ⟨s1, L1, Ab, cb, nb, Ad, cd, nd, Ao, co, no, Ai, ci, ni, Lib.hid (by rw [HK2.out, HS.out]), HC, HF, J⟩
          · have hz2 : (B == 0) = false := by simpa using hz
            have HK2 := Lib.hid (show mrgK c p 3 = stpS 2 c p (mrgK c p 2) from by rw [HK.out, HB.out]; simp [hz])
            clear HB HK
            obtain ⟨x0, x1, x2, x3, x4, x5, x6, x7, x8, x9, x10, xf, xl⟩ := (show HO w _ ([] ++ boxO k8 [_, _, _, _, _, _, _, _, _, _, _] :: _) from J.out).c11
            obtain ⟨y0, y1, y2, y3, y4, y5, y6, y7, y8, y9, y10, yf, yl⟩ := (show HO w _ ([_] ++ boxO k7 [_, _, _, _, _, _, _, _, _, _, _] :: _) from J.out).c11
            replace J := Lib.hid ((show HO w _ ([] ++ boxO k8 [_, _, _, _, _, _, _, _, _, _, _] :: _) from J.out).cell (i := 3) (by simp) (.int .i64 p.tr))
            go_wp2_with fail
            go_meet
            case rel => exact ⟨stpS 2 c p s1, L1, Ab, cb, nb, Ad, cd, nd, Ao, co, no, Ai, ci, ni, Lib.hid (by rw [HK2.out, HS.out]), HC, Lib.hid (StF.tr2 (c := c) (p := p) (s := { s1 with cb := [] }) HF.out HG.out), J⟩
        case rest =>
          clear J p0 HB HK HS HC HF
          obtain ⟨s1, L1, Ab, cb, nb, Ad, cd, nd, Ao, co, no, Ai, ci, ni, HS, HC, HF, J⟩ := hcut
          have HB := Lib.hid (show bitB p.set 8 = decide (bits .and .i64 p.set 8 ≠ 0) from rfl)
          obtain ⟨B, hB⟩ : ∃ B, bits .and .i64 p.set 8 = B := ⟨_, rfl⟩
          rw [hB] at HB
          have HK := Lib.hid (show mrgK c p 4 = if bitB p.set 8 = true then stpS 3 c p (mrgK c p 3) else mrgK c p 3 from rfl)
          have p0 := (show HO w _ ([_] ++ boxO k7 [_, _, _, _, _, _, _, _, _, _, _] :: _) from J.out).c 0 rfl
          go_upto_if 41 with (fail)
          go_cut [] from 15 (fun wx => ∃ (s1 : St) (L1 : List Bv) (Ab : Option Addr) (cb nb : Nat) (Ad : Option Addr) (cd nd : Nat) (Ao : Option Addr) (co no : Nat) (Ai : Option Addr) (ci ni : Nat), Hid (s1 = mrgK c p 4) ∧ Hid (s1.cb = c.cb) ∧ Hid (StF w [joinO (rowsN b3 c M3 (.slice A3 n1 c3) (.slice Ad3 c.dm.length cd3) (.slice Ao3 c.op.length co3) (.slice Ai3 c.ip.length ci3)), joinO (rowsO b4 p M4 (.slice A4 n2 c4) (.slice Ad4 p.dm.length cd4) (.slice Ao4 p.op.length co4) (.slice Ai4 p.ip.length ci4) (.slice Ac4 p.cb.length cc4))] { s1 with cb := [] } L1 (.slice Ab nb cb) (.slice Ad nd cd) (.slice Ao no co) (.slice Ai ni ci) (.slice none 0 0)) ∧ Hid (HO w wx [boxO k8 (stC s1 (.slice Ab nb cb) (.slice Ad nd cd) (.slice Ao no co) (.slice Ai ni ci) (.slice Ac3 c.cb.length cc3)), boxO k7 (stC p (.slice A4 n2 c4) (.slice Ad4 p.dm.length cd4) (.slice Ao4 p.op.length co4) (.slice Ai4 p.ip.length ci4) (.slice Ac4 p.cb.length cc4)), rowO b3 50 1 (.slice Ac3 c.cb.length cc3) c.cb.length (uL c.cb), joinO (rowsN b3 c M3 (.slice A3 n1 c3) (.slice Ad3 c.dm.length cd3) (.slice Ao3 c.op.length co3) (.slice Ai3 c.ip.length ci3)), joinO (rowsO b4 p M4 (.slice A4 n2 c4) (.slice Ad4 p.dm.length cd4) (.slice Ao4 p.op.length co4) (.slice Ai4 p.ip.length ci4) (.slice Ac4 p.cb.length cc4)), boxO (w.heap.size + 2) [.int .i64 0, .slice none 0 0, .int .i64 0, .int .i64 0, .slice none 0 0, .slice none 0 0, .bool false, .slice none 0 0, .int .i64 0, .int .i64 0, .slice none 0 0]]))
          case first =>
            by_cases hz : B = 0
            · subst hz
              have HK2 := Lib.hid (show mrgK c p 4 = mrgK c p 3 from by rw [HK.out, HB.out]; simp)
              clear HB HK
              go_wp2_with fail
              go_meet
              case rel => exact ⟨s1, L1, Ab, cb, nb, Ad, cd, nd, Ao, co, no, Ai, ci, ni, Lib.hid (by rw [HK2.out, HS.out]), HC, HF, J⟩
            · have hz2 : (B == 0) = false := by simpa using hz
              have HK2 := Lib.hid (show mrgK c p 4 = stpS 3 c p (mrgK c p 3) from by rw [HK.out, HB.out]; simp [hz])
              clear HB HK
              obtain ⟨x0, x1, x2, x3, x4, x5, x6, x7, x8, x9, x10, xf, xl⟩ := (show HO w _ ([] ++ boxO k8 [_, _, _, _, _, _, _, _, _, _, _] :: _) from J.out).c11
              obtain ⟨y0, y1, y2, y3, y4, y5, y6, y7, y8, y9, y10, yf, yl⟩ := (show HO w _ ([_] ++ boxO k7 [_, _, _, _, _, _, _, _, _, _, _] :: _) from J.out).c11
              replace J := Lib.hid ((show HO w _ ([] ++ boxO k8 [_, _, _, _, _, _, _, _, _, _, _] :: _) from J.out).cell (i := 4) (by simp) (.slice Ad4 p.dm.length cd4))
              go_wp2_with fail
              go_meet
              case rel => exact ⟨stpS 3 c p s1, L1, Ab, cb, nb, Ad4, cd4, p.dm.length, Ao, co, no, Ai, ci, ni, Lib.hid (by rw [HK2.out, HS.out]), HC, Lib.hid (StF.dm2 (c := c) (p := p) (s := { s1 with cb := [] }) HF.out HG.out), J⟩
          case rest =>
            clear J p0 HB HK HS HC HF
            obtain ⟨s1, L1, Ab, cb, nb, Ad, cd, nd, Ao, co, no, Ai, ci, ni, HS, HC, HF, J⟩ := hcut
            have HB := Lib.hid (show bitB p.set 16 = decide (bits .and .i64 p.set 16 ≠ 0) from rfl)
            obtain ⟨B, hB⟩ : ∃ B, bits .and .i64 p.set 16 = B := ⟨_, rfl⟩
            rw [hB] at HB
            have HK := Lib.hid (show mrgK c p 5 = if bitB p.set 16 = true then stpS 4 c p (mrgK c p 4) else mrgK c p 4 from rfl)
            have p0 := (show HO w _ ([_] ++ boxO k7 [_, _, _, _, _, _, _, _, _, _, _] :: _) from J.out).c 0 rfl
            go_upto_if 48 with (fail)
            go_cut [] from 15 (fun wx => ∃ (s1 : St) (L1 : List Bv) (Ab : Option Addr) (cb nb : Nat) (Ad : Option Addr) (cd nd : Nat) (Ao : Option Addr) (co no : Nat) (Ai : Option Addr) (ci ni : Nat), Hid (s1 = mrgK c p 5) ∧ Hid (s1.cb = c.cb) ∧ Hid (StF w [joinO (rowsN b3 c M3 (.slice A3 n1 c3) (.slice Ad3 c.dm.length cd3) (.slice Ao3 c.op.length co3) (.slice Ai3 c.ip.length ci3)), joinO (rowsO b4 p M4 (.slice A4 n2 c4) (.slice Ad4 p.dm.length cd4) (.slice Ao4 p.op.length co4) (.slice Ai4 p.ip.length ci4) (.slice Ac4 p.cb.length cc4))] { s1 with cb := [] } L1 (.slice Ab nb cb) (.slice Ad nd cd) (.slice Ao no co) (.slice Ai ni ci) (.slice none 0 0)) ∧ Hid (HO w wx [boxO k8 (stC s1 (.slice Ab nb cb) (.slice Ad nd cd) (.slice Ao no co) (.slice Ai ni ci) (.slice Ac3 c.cb.length cc3)), boxO k7 (stC p (.slice A4 n2 c4) (.slice Ad4 p.dm.length cd4) (.slice Ao4 p.op.length co4) (.slice Ai4 p.ip.length ci4) (.slice Ac4 p.cb.length cc4)), rowO b3 50 1 (.slice Ac3 c.cb.length cc3) c.cb.length (uL c.cb), joinO (rowsN b3 c M3 (.slice A3 n1 c3) (.slice Ad3 c.dm.length cd3) (.slice Ao3 c.op.length co3) (.slice Ai3 c.ip.length ci3)), joinO (rowsO b4 p M4 (.slice A4 n2 c4) (.slice Ad4 p.dm.length cd4) (.slice Ao4 p.op.length co4) (.slice Ai4 p.ip.length ci4) (.slice Ac4 p.cb.length cc4)), boxO (w.heap.size + 2) [.int .i64 0, .slice none 0 0, .int .i64 0, .int .i64 0, .slice none 0 0, .slice none 0 0, .bool false, .slice none 0 0, .int .i64 0, .int .i64 0, .slice none 0 0]]))
            case first =>
              by_cases hz : B = 0
              · subst hz
                have HK2 := Lib.hid (show mrgK c p 5 = mrgK c p 4 from by rw [HK.out, HB.out]; simp)
                clear HB HK
                go_wp2_with fail
                go_meet
                case rel => exact ⟨s1, L1, Ab, cb, nb, Ad, cd, nd, Ao, co, no, Ai, ci, ni, Lib.hid (by rw [HK2.out, HS.out]), HC, HF, J⟩
              · have hz2 : (B == 0) = false := by simpa using hz
                have HK2 := Lib.hid (show mrgK c p 5 = stpS 4 c p (mrgK c p 4) from by rw [HK.out, HB.out]; simp [hz])
                clear HB HK
                obtain ⟨x0, x1, x2, x3, x4, x5, x6, x7, x8, x9, x10, xf, xl⟩ := (show HO w _ ([] ++ boxO k8 [_, _, _, _, _, _, _, _, _, _, _] :: _) from J.out).c11
                obtain ⟨y0, y1, y2, y3, y4, y5, y6, y7, y8, y9, y10, yf, yl⟩ := (show HO w _ ([_] ++ boxO k7 [_, _, _, _, _, _, _, _, _, _, _] :: _) from J.out).c11
                replace J := Lib.hid ((show HO w _ ([] ++ boxO k8 [_, _, _, _, _, _, _, _, _, _, _] :: _) from J.out).cell (i := 5) (by simp) (.slice Ao4 p.op.length co4))
                go_wp2_with fail
                go_meet
                case rel => exact ⟨stpS 4 c p s1, L1, Ab, cb, nb, Ad, cd, nd, Ao4, co4, p.op.length, Ai, ci, ni, Lib.hid (by rw [HK2.out, HS.out]), HC, Lib.hid (StF.op2 (c := c) (p := p) (s := { s1 with cb := [] }) HF.out HG.out), J⟩
            case rest =>
              clear J p0 HB HK HS HC HF
              obtain ⟨s1, L1, Ab, cb, nb, Ad, cd, nd, Ao, co, no, Ai, ci, ni, HS, HC, HF, J⟩ := hcut
              have HB := Lib.hid (show bitB p.set 32 = decide (bits .and .i64 p.set 32 ≠ 0) from rfl)
              obtain ⟨B, hB⟩ : ∃ B, bits .and .i64 p.set 32 = B := ⟨_, rfl⟩
              rw [hB] at HB
              have HK := Lib.hid (show mrgK c p 6 = if bitB p.set 32 = true then stpS 5 c p (mrgK c p 5) else mrgK c p 5 from rfl)
              have p0 := (show HO w _ ([_] ++ boxO k7 [_, _, _, _, _, _, _, _, _, _, _] :: _) from J.out).c 0 rfl
              go_upto_if 55 with (fail)
              go_cut [] from 15 (fun wx => ∃ (s1 : St) (L1 : List Bv) (Ab : Option Addr) (cb nb : Nat) (Ad : Option Addr) (cd nd : Nat) (Ao : Option Addr) (co no : Nat) (Ai : Option Addr) (ci ni : Nat), Hid (s1 = mrgK c p 6) ∧ Hid (s1.cb = c.cb) ∧ Hid (StF w [joinO (rowsN b3 c M3 (.slice A3 n1 c3) (.slice Ad3 c.dm.length cd3) (.slice Ao3 c.op.length co3) (.slice Ai3 c.ip.length ci3)), joinO (rowsO b4 p M4 (.slice A4 n2 c4) (.slice Ad4 p.dm.length cd4) (.slice Ao4 p.op.length co4) (.slice Ai4 p.ip.length ci4) (.slice Ac4 p.cb.length cc4))] { s1 with cb := [] } L1 (.slice Ab nb cb) (.slice Ad nd cd) (.slice Ao no co) (.slice Ai ni ci) (.slice none 0 0)) ∧ Hid (HO w wx [boxO k8 (stC s1 (.slice Ab nb cb) (.slice Ad nd cd) (.slice Ao no co) (.slice Ai ni ci) (.slice Ac3 c.cb.length cc3)), boxO k7 (stC p (.slice A4 n2 c4) (.slice Ad4 p.dm.length cd4) (.slice Ao4 p.op.length co4) (.slice Ai4 p.ip.length ci4) (.slice Ac4 p.cb.length cc4)), rowO b3 50 1 (.slice Ac3 c.cb.length cc3) c.cb.length (uL c.cb), joinO (rowsN b3 c M3 (.slice A3 n1 c3) (.slice Ad3 c.dm.length cd3) (.slice Ao3 c.op.length co3) (.slice Ai3 c.ip.length ci3)), joinO (rowsO b4 p M4 (.slice A4 n2 c4) (.slice Ad4 p.dm.length cd4) (.slice Ao4 p.op.length co4) (.slice Ai4 p.ip.length ci4) (.slice Ac4 p.cb.length cc4)), boxO (w.heap.size + 2) [.int .i64 0, .slice none 0 0, .int .i64 0, .int .i64 0, .slice none 0 0, .slice none 0 0, .bool false, .slice none 0 0, .int .i64 0, .int .i64 0, .slice none 0 0]]))
              case first =>
                by_cases hz : B = 0
                · subst hz
                  have HK2 := Lib.hid (show mrgK c p 6 = mrgK c p 5 from by rw [HK.out, HB.out]; simp)
                  clear HB HK
                  go_wp2_with fail
                  go_meet
                  case rel => exact ⟨s1, L1, Ab, cb, nb, Ad, cd, nd, Ao, co, no, Ai, ci, ni, Lib.hid (by rw [HK2.out, HS.out]), HC, HF, J⟩
                · have hz2 : (B == 0) = false := by simpa using hz
                  have HK2 := Lib.hid (show mrgK c p 6 = stpS 5 c p (mrgK c p 5) from by rw [HK.out, HB.out]; simp [hz])
                  clear HB HK
                  obtain ⟨x0, x1, x2, x3, x4, x5, x6, x7, x8, x9, x10, xf, xl⟩ := (show HO w _ ([] ++ boxO k8 [_, _, _, _, _, _, _, _, _, _, _] :: _) from J.out).c11
                  obtain ⟨y0, y1, y2, y3, y4, y5, y6, y7, y8, y9, y10, yf, yl⟩ := (show HO w _ ([_] ++ boxO k7 [_, _, _, _, _, _, _, _, _, _, _] :: _) from J.out).c11
                  replace J := Lib.hid ((show HO w _ ([] ++ boxO k8 [_, _, _, _, _, _, _, _, _, _, _] :: _) from ((show HO w _ ([] ++ boxO k8 [_, _, _, _, _, _, _, _, _, _, _] :: _) from J.out).cell (i := 6) (by simp) (.bool p.is))).cell (i := 7) (by simp) (.slice Ai4 p.ip.length ci4))
                  go_wp2_with fail
                  go_meet
                  case rel => exact ⟨stpS 5 c p s1, L1, Ab, cb, nb, Ad, cd, nd, Ao, co, no, Ai4, ci4, p.ip.length, Lib.hid (by rw [HK2.out, HS.out]), HC, Lib.hid (StF.ip2 (c := c) (p := p) (s := { s1 with cb := [] }) HF.out HG.out), J⟩
              case rest =>
                clear J p0 HB HK HS HC HF
                obtain ⟨s1, L1, Ab, cb, nb, Ad, cd, nd, Ao, co, no, Ai, ci, ni, HS, HC, HF, J⟩ := hcut
                have HB := Lib.hid (show bitB p.set 64 = decide (bits .and .i64 p.set 64 ≠ 0) from rfl)
                obtain ⟨B, hB⟩ : ∃ B, bits .and .i64 p.set 64 = B := ⟨_, rfl⟩
                rw [hB] at HB
                have HK := Lib.hid (show mrgK c p 7 = if bitB p.set 64 = true then stpS 6 c p (mrgK c p 6) else mrgK c p 6 from rfl)
                have p0 := (show HO w _ ([_] ++ boxO k7 [_, _, _, _, _, _, _, _, _, _, _] :: _) from J.out).c 0 rfl
                go_upto_if 65 with (fail)
                go_cut [] from 15 (fun wx => ∃ (s1 : St) (L1 : List Bv) (Ab : Option Addr) (cb nb : Nat) (Ad : Option Addr) (cd nd : Nat) (Ao : Option Addr) (co no : Nat) (Ai : Option Addr) (ci ni : Nat), Hid (s1 = mrgK c p 7) ∧ Hid (s1.cb = c.cb) ∧ Hid (StF w [joinO (rowsN b3 c M3 (.slice A3 n1 c3) (.slice Ad3 c.dm.length cd3) (.slice Ao3 c.op.length co3) (.slice Ai3 c.ip.length ci3)), joinO (rowsO b4 p M4 (.slice A4 n2 c4) (.slice Ad4 p.dm.length cd4) (.slice Ao4 p.op.length co4) (.slice Ai4 p.ip.length ci4) (.slice Ac4 p.cb.length cc4))] { s1 with cb := [] } L1 (.slice Ab nb cb) (.slice Ad nd cd) (.slice Ao no co) (.slice Ai ni ci) (.slice none 0 0)) ∧ Hid (HO w wx [boxO k8 (stC s1 (.slice Ab nb cb) (.slice Ad nd cd) (.slice Ao no co) (.slice Ai ni ci) (.slice Ac3 c.cb.length cc3)), boxO k7 (stC p (.slice A4 n2 c4) (.slice Ad4 p.dm.length cd4) (.slice Ao4 p.op.length co4) (.slice Ai4 p.ip.length ci4) (.slice Ac4 p.cb.length cc4)), rowO b3 50 1 (.slice Ac3 c.cb.length cc3) c.cb.length (uL c.cb), joinO (rowsN b3 c M3 (.slice A3 n1 c3) (.slice Ad3 c.dm.length cd3) (.slice Ao3 c.op.length co3) (.slice Ai3 c.ip.length ci3)), joinO (rowsO b4 p M4 (.slice A4 n2 c4) (.slice Ad4 p.dm.length cd4) (.slice Ao4 p.op.length co4) (.slice Ai4 p.ip.length ci4) (.slice Ac4 p.cb.length cc4)), boxO (w.heap.size + 2) [.int .i64 0, .slice none 0 0, .int .i64 0, .int .i64 0, .slice none 0 0, .slice none 0 0, .bool false, .slice none 0 0, .int .i64 0, .int .i64 0, .slice none 0 0]]))
                case first =>
                  by_cases hz : B = 0
                  · subst hz
                    have HK2 := Lib.hid (show mrgK c p 7 = mrgK c p 6 from by rw [HK.out, HB.out]; simp)
                    clear HB HK
                    go_wp2_with fail
                    go_meet
                    case rel => exact ⟨s1, L1, Ab, cb, nb, Ad, cd, nd, Ao, co, no, Ai, ci, ni, Lib.hid (by rw [HK2.out, HS.out]), HC, HF, J⟩
                  · have hz2 : (B == 0) = false := by simpa using hz
                    have HK2 := Lib.hid (show mrgK c p 7 = stpS 6 c p (mrgK c p 6) from by rw [HK.out, HB.out]; simp [hz])
                    clear HB HK
                    obtain ⟨x0, x1, x2, x3, x4, x5, x6, x7, x8, x9, x10, xf, xl⟩ := (show HO w _ ([] ++ boxO k8 [_, _, _, _, _, _, _, _, _, _, _] :: _) from J.out).c11
                    obtain ⟨y0, y1, y2, y3, y4, y5, y6, y7, y8, y9, y10, yf, yl⟩ := (show HO w _ ([_] ++ boxO k7 [_, _, _, _, _, _, _, _, _, _, _] :: _) from J.out).c11
                    replace J := Lib.hid ((show HO w _ ([] ++ boxO k8 [_, _, _, _, _, _, _, _, _, _, _] :: _) from ((show HO w _ ([] ++ boxO k8 [_, _, _, _, _, _, _, _, _, _, _] :: _) from J.out).cell (i := 8) (by simp) (.int .i64 p.dx))).cell (i := 9) (by simp) (.int .i64 p.dy))
                    go_wp2_with fail
                    go_meet
                    case rel => exact ⟨stpS 6 c p s1, L1, Ab, cb, nb, Ad, cd, nd, Ao, co, no, Ai, ci, ni, Lib.hid (by rw [HK2.out, HS.out]), HC, Lib.hid (StF.dd2 (c := c) (p := p) (s := { s1 with cb := [] }) HF.out HG.out), J⟩
                case rest =>
                  clear J p0 HB HK HS HC HF
                  obtain ⟨s1, L1, Ab, cb, nb, Ad, cd, nd, Ao, co, no, Ai, ci, ni, HS, HC, HF, J⟩ := hcut
                  have HB := Lib.hid (show bitB p.set 128 = decide (bits .and .i64 p.set 128 ≠ 0) from rfl)
                  obtain ⟨B, hB⟩ : ∃ B, bits .and .i64 p.set 128 = B := ⟨_, rfl⟩
                  rw [hB] at HB
                  have HK := Lib.hid (show mrgK c p 8 = if bitB p.set 128 = true then stpS 7 c p (mrgK c p 7) else mrgK c p 7 from rfl)
                  have p0 := (show HO w _ ([_] ++ boxO k7 [_, _, _, _, _, _, _, _, _, _, _] :: _) from J.out).c 0 rfl
                  go_upto_if 72 with (fail)
                  go_cut [] from 15 (fun wx => ∃ (s1 : St) (L1 : List Bv) (Ab : Option Addr) (cb nb : Nat) (Ad : Option Addr) (cd nd : Nat) (Ao : Option Addr) (co no : Nat) (Ai : Option Addr) (ci ni : Nat) (Ac : Option Addr) (cc nc : Nat) (Rw : List Ob), Hid (s1 = mrgK c p 8) ∧ Hid (StF w Rw s1 L1 (.slice Ab nb cb) (.slice Ad nd cd) (.slice Ao no co) (.slice Ai ni ci) (.slice Ac nc cc)) ∧ Hid (HO w wx ([boxO k8 (stC s1 (.slice Ab nb cb) (.slice Ad nd cd) (.slice Ao no co) (.slice Ai ni ci) (.slice Ac nc cc)), boxO (w.heap.size + 2) [.int .i64 0, .slice none 0 0, .int .i64 0, .int .i64 0, .slice none 0 0, .slice none 0 0, .bool false, .slice none 0 0, .int .i64 0, .int .i64 0, .slice none 0 0]] ++ Rw)))
                  case first =>
                    by_cases hz : B = 0
                    · subst hz
                      have HK2 := Lib.hid (show mrgK c p 8 = mrgK c p 7 from by rw [HK.out, HB.out]; simp)
                      clear HB HK
                      go_wp2_with fail
                      go_meet
                      case rel => exact ⟨s1, L1, Ab, cb, nb, Ad, cd, nd, Ao, co, no, Ai, ci, ni, Ac3, cc3, _, _, Lib.hid (by rw [HK2.out, HS.out]), Lib.hid (StF.fill HF.out (by rw [HC.out])), Lib.hid (rm_drop (by rw [HC.out]; exact J.out))⟩
                    · have hz2 : (B == 0) = false := by simpa using hz
                      have HK2 := Lib.hid (show mrgK c p 8 = stpS 7 c p (mrgK c p 7) from by rw [HK.out, HB.out]; simp [hz])
                      clear HB HK
                      obtain ⟨x0, x1, x2, x3, x4, x5, x6, x7, x8, x9, x10, xf, xl⟩ := (show HO w _ ([] ++ boxO k8 [_, _, _, _, _, _, _, _, _, _, _] :: _) from J.out).c11
                      obtain ⟨y0, y1, y2, y3, y4, y5, y6, y7, y8, y9, y10, yf, yl⟩ := (show HO w _ ([_] ++ boxO k7 [_, _, _, _, _, _, _, _, _, _, _] :: _) from J.out).c11
                      have hpc := (HG.out _ J.out.below (fun o ho => J.out.says o (by simp only [List.mem_cons, List.not_mem_nil, or_false] at ho ⊢; rcases ho with rfl | rfl <;> simp))).cb
                      have hle := (show HO w _ ([_, _, _] ++ joinO (leO b3 :: _) :: _) from J.out).at (leO b3) (List.mem_cons_self ..)
                      have HPC := Lib.hid hpc
                      clear hpc
                      have HOC := Lib.hid (oneCell_uL p.cb)
                      have HLE := Lib.hid hle
                      clear hle
                      go_wp2_with (at_builtin; refine wpList_appO rfl rowU _ _ rfl (base := b3) (n := c.cb.length) (xs := uL c.cb) rfl (show HO w _ ([_, _] ++ rowO b3 50 1 _ c.cb.length _ :: _) from J.out).at rfl HPC.out HOC.out (by omega) HLE.out ?_; intro v5 w5 ho5 hg5 hw5; rw [← uL_app] at ho5; obtain ⟨A5, c5, hv5, hc51, hc52⟩ := sn_own_shape ho5; subst hv5; replace J := Lib.hid ((show HO w _ ([_, _] ++ rowO b3 50 1 _ c.cb.length _ :: _) from J.out).grow ho5 hg5 hw5); clear ho5 hg5 hw5 x0 x1 x2 x3 x4 x5 x6 x7 x8 x9 x10 y0 y1 y2 y3 y4 y5 y6 y7 y8 y9 y10 xf xl yf yl; obtain ⟨x0, x1, x2, x3, x4, x5, x6, x7, x8, x9, x10, xf, xl⟩ := (show HO w _ ([] ++ boxO k8 [_, _, _, _, _, _, _, _, _, _, _] :: _) from J.out).c11)
                      replace J := Lib.hid ((show HO w _ ([] ++ boxO k8 [_, _, _, _, _, _, _, _, _, _, _] :: _) from J.out).cell (i := 10) (by simp) (.slice A5 (c.cb.length + p.cb.length) c5))
                      go_meet
                      case rel => exact ⟨stpS 7 c p s1, L1, Ab, cb, nb, Ad, cd, nd, Ao, co, no, Ai, ci, ni, A5, c5, c.cb.length + p.cb.length, _, Lib.hid (by rw [HK2.out, HS.out]), Lib.hid (StF.fill (s := stpS 7 c p s1) HF.out (by simp [stpS])), Lib.hid (rm_drop J.out)⟩
                  case rest =>
                    clear J p0 HB HK HS HC HF
                    obtain ⟨s1, L1, Ab, cb, nb, Ad, cd, nd, Ao, co, no, Ai, ci, ni, Ac, cc, nc, Rw, HS, HF, J⟩ := hcut
                    have hsm : s1 = m := HS.out.trans HM.out
                    subst hsm
                    clear HS
                    have HST := Lib.hid (HF.out _ J.out.below (fun o ho => J.out.says o (by simp only [List.mem_append]; exact .inr ho)))
                    have CK := Lib.hid (rchk_any HST.out HFW.out)
                    rw [HKC.out] at CK
                    obtain ⟨x0, x1, x2, x3, x4, x5, x6, x7, x8, x9, x10, xf, xl⟩ := (show HO w _ ([] ++ boxO k8 [_, _, _, _, _, _, _, _, _, _, _] :: _) from J.out).c11
                    go_wp2_with fail
                    refine CK.out.mono ?_
                    rintro e w4 ⟨rfl, hb⟩
                    replace J := Lib.hid (J.out.step hb)
                    clear hb CK HST x0 x1 x2 x3 x4 x5 x6 x7 x8 x9 x10 xf xl
                    obtain ⟨y0, y1, y2, y3, y4, y5, y6, y7, y8, y9, y10, yf, yl⟩ := (show HO w _ ([_] ++ boxO (w.heap.size + 2) [_, _, _, _, _, _, _, _, _, _, _] :: _) from J.out).c11
                    by_cases hc : kc = 0
                    · subst hc
                      obtain ⟨x0, x1, x2, x3, x4, x5, x6, x7, x8, x9, x10, xf, xl⟩ := (show HO w _ ([] ++ boxO k8 [_, _, _, _, _, _, _, _, _, _, _] :: _) from J.out).c11
                      have J2 := Lib.hid ((show HO w _ ([_] ++ boxO (w.heap.size + 2) [_, _, _, _, _, _, _, _, _, _, _] :: _) from J.out).set11 (.int .i64 s1.set) (.slice Ab nb cb) (.int .i64 s1.sc) (.int .i64 s1.tr) (.slice Ad nd cd) (.slice Ao no co) (.bool s1.is) (.slice Ai ni ci) (.int .i64 s1.dx) (.int .i64 s1.dy) (.slice Ac nc cc))
                      go_wp2_with fail
                      obtain ⟨t0, t1, t2, t3, t4, t5, t6, t7, t8, t9, t10, -, -⟩ := (show HO w _ ([_] ++ boxO (w.heap.size + 2) [_, _, _, _, _, _, _, _, _, _, _] :: _) from J2.out).c11
                      refine bodyPost_ret (v := .tuple #[stV s1 (.slice Ab nb cb) (.slice Ad nd cd) (.slice Ao no co) (.slice Ai ni ci) (.slice Ac nc cc), .int .i64 0]) (by simp [results, Tryz.results19, go_sem, t0, t1, t2, t3, t4, t5, t6, t7, t8, t9, t10]) rfl ?_
                      exact ⟨L1, _, _, _, _, _, rfl, HF.out _ J2.out.below (fun o ho => J2.out.says o (List.mem_cons_of_mem _ (List.mem_cons_of_mem _ ho))), J2.out.below⟩
                    · have hz2 : (kc == 0) = false := by simpa using hc
                      have J2 := Lib.hid ((show HO w _ ([_] ++ boxO (w.heap.size + 2) [_, _, _, _, _, _, _, _, _, _, _] :: _) from J.out).set11 (.int .i64 0) (.slice none 0 0) (.int .i64 0) (.int .i64 0) (.slice none 0 0) (.slice none 0 0) (.bool false) (.slice none 0 0) (.int .i64 0) (.int .i64 0) (.slice none 0 0))
                      go_wp2_with fail
                      obtain ⟨t0, t1, t2, t3, t4, t5, t6, t7, t8, t9, t10, -, -⟩ := (show HO w _ ([_] ++ boxO (w.heap.size + 2) [_, _, _, _, _, _, _, _, _, _, _] :: _) from J2.out).c11
                      refine bodyPost_ret (v := .tuple #[stV zeroS (.slice none 0 0) (.slice none 0 0) (.slice none 0 0) (.slice none 0 0) (.slice none 0 0), .int .i64 kc]) (by simp [results, Tryz.results19, go_sem, zeroS, t0, t1, t2, t3, t4, t5, t6, t7, t8, t9, t10]) rfl ?_
                      exact ⟨[], _, _, _, _, _, rfl, st_init _ _ ⟨rfl, rfl, rfl, rfl, rfl⟩, J2.out.below⟩

end Go.Proofs.YthedglfocjljjaaGreatDoor
