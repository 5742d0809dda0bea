/-
  Package state: merged, Merge.
-/
import Derived.Test.YthedglfocjljjaaGreatDoorSmg
namespace Go.Proofs.YthedglfocjljjaaGreatDoor
open Go.RowKit

@[local go_sem] theorem run_store_fn {P : Program} {w : World} {a : Addr} {m : Mode} (fn : Fn) (first captured : Array Value) : (store a (.func fn first captured) m).run P w = stored P w a (.func fn first captured) m := run_store P w a _ m rfl
def StF (w : World) (Rw : List Ob) (s : St) (L : List Bv) (vb vd vo vi vc : Value) : Prop := ∀ W, Below w.heap.size w W → (∀ o ∈ Rw, o.P W) → StAt W s L vb vd vo vi vc
section
variable {w : World} {Rw : List Ob} {s c p : St} {L M : List Bv} {vb vd vo vi vc ub ud uo ui uc : Value}
theorem StF.bf (h : StF w Rw s L vb vd vo vi vc) (g : Hid (StAt w p M ub ud uo ui uc)) : StF w Rw (stpS 0 c p s) M ub vd vo vi vc := fun W hb hr => let H := h W hb hr; let G := g.out.below hb; ⟨G.bf, G.px, G.eq, H.dm, H.op, H.ip, H.cb⟩
theorem StF.sc (h : StF w Rw s L vb vd vo vi vc) (_ : Hid (StAt w p M ub ud uo ui uc)) : StF w Rw (stpS 1 c p s) L vb vd vo vi vc := fun W hb hr => let H := h W hb hr; ⟨H.bf, H.px, H.eq, H.dm, H.op, H.ip, H.cb⟩
theorem StF.tr (h : StF w Rw s L vb vd vo vi vc) (_ : Hid (StAt w p M ub ud uo ui uc)) : StF w Rw (stpS 2 c p s) L vb vd vo vi vc := fun W hb hr => let H := h W hb hr; ⟨H.bf, H.px, H.eq, H.dm, H.op, H.ip, H.cb⟩
theorem StF.dm (h : StF w Rw s L vb vd vo vi vc) (g : Hid (StAt w p M ub ud uo ui uc)) : StF w Rw (stpS 3 c p s) L vb ud vo vi vc := fun W hb hr => let H := h W hb hr; let G := g.out.below hb; ⟨H.bf, H.px, H.eq, G.dm, H.op, H.ip, H.cb⟩
theorem StF.op (h : StF w Rw s L vb vd vo vi vc) (g : Hid (StAt w p M ub ud uo ui uc)) : StF w Rw (stpS 4 c p s) L vb vd uo vi vc := fun W hb hr => let H := h W hb hr; let G := g.out.below hb; ⟨H.bf, H.px, H.eq, H.dm, G.op, H.ip, H.cb⟩
theorem StF.ip (h : StF w Rw s L vb vd vo vi vc) (g : Hid (StAt w p M ub ud uo ui uc)) : StF w Rw (stpS 5 c p s) L vb vd vo ui vc := fun W hb hr => let H := h W hb hr; let G := g.out.below hb; ⟨H.bf, H.px, H.eq, H.dm, H.op, G.ip, H.cb⟩
theorem StF.dd (h : StF w Rw s L vb vd vo vi vc) (_ : Hid (StAt w p M ub ud uo ui uc)) : StF w Rw (stpS 6 c p s) L vb vd vo vi vc := fun W hb hr => let H := h W hb hr; ⟨H.bf, H.px, H.eq, H.dm, H.op, H.ip, H.cb⟩
theorem StF.cb9 {v : Value} (h : StF w Rw s L vb vd vo vi vc) : StF w (rowO w.heap.size 50 1 v (c.cb ++ p.cb).length (uL (c.cb ++ p.cb)) :: Rw) (stpS 7 c p s) L vb vd vo vi v := fun W hb hr =>
  let H := h W hb (fun o ho => hr o (List.mem_cons_of_mem _ ho))
  ⟨H.bf, H.px, H.eq, H.dm, H.op, H.ip, sn_owned (hr _ (List.mem_cons_self ..)) (uL_length _)⟩
theorem mh_perm (a b : Ob) (l m : List Ob) : (b :: (l ++ a :: m)).Perm (a :: b :: (l ++ m)) := (List.Perm.cons b List.perm_middle).trans (List.Perm.swap a b _)
end
def MgO (w : World) (c p : St) (e : Ending) (w' : World) : Prop :=
  ∃ (L1 : List Bv) (vb vd vo vi vc : Value), e = .returned (stV (mrgS c p) vb vd vo vi vc) ∧ StAt w' (mrgS c p) L1 vb vd vo vi vc ∧ Below w.heap.size w w'

set_option maxRecDepth 100000 in
set_option maxHeartbeats 16000000 in
theorem merged_any {w : World} {c p : St} {L M : List Bv} {vb vd vo vi vc ub ud uo ui uc : Value} (h : StAt w c L vb vd vo vi vc) (g : StAt w p M ub ud uo ui uc) (hcb : c.cb.length ≤ 2000) (hpb : p.cb.length ≤ 2000) :
    Calls Tryz.prog 49 #[stV c vb vd vo vi vc, stV p ub ud uo ui uc] w (MgO w c p) := by
  obtain ⟨A1, c1, rfl, h11, h21⟩ := h.bf.shape
  obtain ⟨Ad1, cd1, rfl, hd11, hd21⟩ := h.dm.shape
  obtain ⟨Ao1, co1, rfl, ho11, ho21⟩ := h.op.shape
  obtain ⟨Ai1, ci1, rfl, hi11, hi21⟩ := h.ip.shape
  obtain ⟨Ac1, cc1, rfl, hc11, hc21⟩ := h.cb.shape
  obtain ⟨A2, c2, rfl, h12, h22⟩ := g.bf.shape
  obtain ⟨Ad2, cd2, rfl, hd12, hd22⟩ := g.dm.shape
  obtain ⟨Ao2, co2, rfl, ho12, ho22⟩ := g.op.shape
  obtain ⟨Ai2, ci2, rfl, hi12, hi22⟩ := g.ip.shape
  obtain ⟨Ac2, cc2, rfl, hc12, hc22⟩ := g.cb.shape
  have HG := Lib.hid g
  have HC1 := Lib.hid h.cb
  have HC2 := Lib.hid g.cb
  have HF0 := Lib.hid (show StF w [] { c with set := 0, dm := [] } L (.slice A1 L.length c1) (.slice none 0 0) (.slice Ao1 c.op.length co1) (.slice Ai1 c.ip.length ci1) (.slice Ac1 c.cb.length cc1) from fun W hb _ => let H := h.below hb; ⟨H.bf, H.px, H.eq, sn_nil _ _, H.op, H.ip, H.cb⟩)
  have J0 := Lib.hid (show HO w (((((w.alloc (.cells (stC c (.slice A1 L.length c1) (.slice Ad1 c.dm.length cd1) (.slice Ao1 c.op.length co1) (.slice Ai1 c.ip.length ci1) (.slice Ac1 c.cb.length cc1)).toArray 28)).alloc (.cells (stC p (.slice A2 M.length c2) (.slice Ad2 p.dm.length cd2) (.slice Ao2 p.op.length co2) (.slice Ai2 p.ip.length ci2) (.slice Ac2 p.cb.length cc2)).toArray 28)).alloc (.cells [.int .i64 0, .slice none 0 0, .int .i64 0, .int .i64 0, .slice none 0 0, .slice none 0 0, .bool false, .slice none 0 0, .int .i64 0, .int .i64 0, .slice none 0 0].toArray 28)).alloc (.cells (stC { c with set := 0, dm := [] } (.slice A1 L.length c1) (.slice none 0 0) (.slice Ao1 c.op.length co1) (.slice Ai1 c.ip.length ci1) (.slice Ac1 c.cb.length cc1)).toArray 28)).alloc (.cells [.int .i64 1, .func (.func 70) #[] #[.pointer (some ⟨w.heap.size + 1, 0, none⟩), .pointer (some ⟨w.heap.size + 3, 0, none⟩)], .int .i64 2, .func (.func 71) #[] #[.pointer (some ⟨w.heap.size + 1, 0, none⟩), .pointer (some ⟨w.heap.size + 3, 0, none⟩)], .int .i64 4, .func (.func 72) #[] #[.pointer (some ⟨w.heap.size + 1, 0, none⟩), .pointer (some ⟨w.heap.size + 3, 0, none⟩)], .int .i64 8, .func (.func 73) #[] #[.pointer (some ⟨w.heap.size + 1, 0, none⟩), .pointer (some ⟨w.heap.size + 3, 0, none⟩)], .int .i64 16, .func (.func 74) #[] #[.pointer (some ⟨w.heap.size + 1, 0, none⟩), .pointer (some ⟨w.heap.size + 3, 0, none⟩)], .int .i64 32, .func (.func 75) #[] #[.pointer (some ⟨w.heap.size + 1, 0, none⟩), .pointer (some ⟨w.heap.size + 3, 0, none⟩)], .int .i64 64, .func (.func 76) #[] #[.pointer (some ⟨w.heap.size + 1, 0, none⟩), .pointer (some ⟨w.heap.size + 3, 0, none⟩)], .int .i64 128, .func (.func 77) #[] #[.pointer (some ⟨w.heap.size, 0, none⟩), .pointer (some ⟨w.heap.size + 1, 0, none⟩), .pointer (some ⟨w.heap.size + 3, 0, none⟩)]].toArray 83)) ([boxO (w.heap.size + 3) (stC { c with set := 0, dm := [] } (.slice A1 L.length c1) (.slice none 0 0) (.slice Ao1 c.op.length co1) (.slice Ai1 c.ip.length ci1) (.slice Ac1 c.cb.length cc1)), boxO (w.heap.size + 4) [.int .i64 1, .func (.func 70) #[] #[.pointer (some ⟨w.heap.size + 1, 0, none⟩), .pointer (some ⟨w.heap.size + 3, 0, none⟩)], .int .i64 2, .func (.func 71) #[] #[.pointer (some ⟨w.heap.size + 1, 0, none⟩), .pointer (some ⟨w.heap.size + 3, 0, none⟩)], .int .i64 4, .func (.func 72) #[] #[.pointer (some ⟨w.heap.size + 1, 0, none⟩), .pointer (some ⟨w.heap.size + 3, 0, none⟩)], .int .i64 8, .func (.func 73) #[] #[.pointer (some ⟨w.heap.size + 1, 0, none⟩), .pointer (some ⟨w.heap.size + 3, 0, none⟩)], .int .i64 16, .func (.func 74) #[] #[.pointer (some ⟨w.heap.size + 1, 0, none⟩), .pointer (some ⟨w.heap.size + 3, 0, none⟩)], .int .i64 32, .func (.func 75) #[] #[.pointer (some ⟨w.heap.size + 1, 0, none⟩), .pointer (some ⟨w.heap.size + 3, 0, none⟩)], .int .i64 64, .func (.func 76) #[] #[.pointer (some ⟨w.heap.size + 1, 0, none⟩), .pointer (some ⟨w.heap.size + 3, 0, none⟩)], .int .i64 128, .func (.func 77) #[] #[.pointer (some ⟨w.heap.size, 0, none⟩), .pointer (some ⟨w.heap.size + 1, 0, none⟩), .pointer (some ⟨w.heap.size + 3, 0, none⟩)]], boxO (w.heap.size + 2) [.int .i64 0, .slice none 0 0, .int .i64 0, .int .i64 0, .slice none 0 0, .slice none 0 0, .bool false, .slice none 0 0, .int .i64 0, .int .i64 0, .slice none 0 0], boxO (w.heap.size + 1) (stC p (.slice A2 M.length c2) (.slice Ad2 p.dm.length cd2) (.slice Ao2 p.op.length co2) (.slice Ai2 p.ip.length ci2) (.slice Ac2 p.cb.length cc2)), boxO w.heap.size (stC c (.slice A1 L.length c1) (.slice Ad1 c.dm.length cd1) (.slice Ao1 c.op.length co1) (.slice Ai1 c.ip.length ci1) (.slice Ac1 c.cb.length cc1))] ++ []) from by
    have h := (((((HO.nil w).alloc (stC c (.slice A1 L.length c1) (.slice Ad1 c.dm.length cd1) (.slice Ao1 c.op.length co1) (.slice Ai1 c.ip.length ci1) (.slice Ac1 c.cb.length cc1)) 28).alloc (stC p (.slice A2 M.length c2) (.slice Ad2 p.dm.length cd2) (.slice Ao2 p.op.length co2) (.slice Ai2 p.ip.length ci2) (.slice Ac2 p.cb.length cc2)) 28).alloc [.int .i64 0, .slice none 0 0, .int .i64 0, .int .i64 0, .slice none 0 0, .slice none 0 0, .bool false, .slice none 0 0, .int .i64 0, .int .i64 0, .slice none 0 0] 28).alloc (stC { c with set := 0, dm := [] } (.slice A1 L.length c1) (.slice none 0 0) (.slice Ao1 c.op.length co1) (.slice Ai1 c.ip.length ci1) (.slice Ac1 c.cb.length cc1)) 28).alloc [.int .i64 1, .func (.func 70) #[] #[.pointer (some ⟨w.heap.size + 1, 0, none⟩), .pointer (some ⟨w.heap.size + 3, 0, none⟩)], .int .i64 2, .func (.func 71) #[] #[.pointer (some ⟨w.heap.size + 1, 0, none⟩), .pointer (some ⟨w.heap.size + 3, 0, none⟩)], .int .i64 4, .func (.func 72) #[] #[.pointer (some ⟨w.heap.size + 1, 0, none⟩), .pointer (some ⟨w.heap.size + 3, 0, none⟩)], .int .i64 8, .func (.func 73) #[] #[.pointer (some ⟨w.heap.size + 1, 0, none⟩), .pointer (some ⟨w.heap.size + 3, 0, none⟩)], .int .i64 16, .func (.func 74) #[] #[.pointer (some ⟨w.heap.size + 1, 0, none⟩), .pointer (some ⟨w.heap.size + 3, 0, none⟩)], .int .i64 32, .func (.func 75) #[] #[.pointer (some ⟨w.heap.size + 1, 0, none⟩), .pointer (some ⟨w.heap.size + 3, 0, none⟩)], .int .i64 64, .func (.func 76) #[] #[.pointer (some ⟨w.heap.size + 1, 0, none⟩), .pointer (some ⟨w.heap.size + 3, 0, none⟩)], .int .i64 128, .func (.func 77) #[] #[.pointer (some ⟨w.heap.size, 0, none⟩), .pointer (some ⟨w.heap.size + 1, 0, none⟩), .pointer (some ⟨w.heap.size + 3, 0, none⟩)]] 83
    simp only [World.size_alloc] at h
    exact h.swap)
  unfold MgO
  clear h g
  go_enter Tryz.func49, Tryz.ntmps49
  go_wp2_with fail
  go_loopw [29] (fun s29 wr => ∃ (i : Nat) (z : Int) (s1 : St) (L1 : List Bv) (Ab : Option Addr) (cb nb : Nat) (Ad : Option Addr) (cd nd : Nat) (Ao : Option Addr) (co no : Nat) (Ai : Option Addr) (ci ni : Nat) (Ac : Option Addr) (cc nc : Nat) (Rw : List Ob), i ≤ 8 ∧ s29 = .int .i64 z ∧ z = (i : Int) ∧ Hid (s1 = mrgK c p i) ∧ Hid (StF w Rw s1 L1 (.slice Ab nb cb) (.slice Ad nd cd) (.slice Ao no co) (.slice Ai ni ci) (.slice Ac nc cc)) ∧ Hid (HO w wr ([boxO (w.heap.size + 3) (stC s1 (.slice Ab nb cb) (.slice Ad nd cd) (.slice Ao no co) (.slice Ai ni ci) (.slice Ac nc cc)), boxO (w.heap.size + 4) [.int .i64 1, .func (.func 70) #[] #[.pointer (some ⟨w.heap.size + 1, 0, none⟩), .pointer (some ⟨w.heap.size + 3, 0, none⟩)], .int .i64 2, .func (.func 71) #[] #[.pointer (some ⟨w.heap.size + 1, 0, none⟩), .pointer (some ⟨w.heap.size + 3, 0, none⟩)], .int .i64 4, .func (.func 72) #[] #[.pointer (some ⟨w.heap.size + 1, 0, none⟩), .pointer (some ⟨w.heap.size + 3, 0, none⟩)], .int .i64 8, .func (.func 73) #[] #[.pointer (some ⟨w.heap.size + 1, 0, none⟩), .pointer (some ⟨w.heap.size + 3, 0, none⟩)], .int .i64 16, .func (.func 74) #[] #[.pointer (some ⟨w.heap.size + 1, 0, none⟩), .pointer (some ⟨w.heap.size + 3, 0, none⟩)], .int .i64 32, .func (.func 75) #[] #[.pointer (some ⟨w.heap.size + 1, 0, none⟩), .pointer (some ⟨w.heap.size + 3, 0, none⟩)], .int .i64 64, .func (.func 76) #[] #[.pointer (some ⟨w.heap.size + 1, 0, none⟩), .pointer (some ⟨w.heap.size + 3, 0, none⟩)], .int .i64 128, .func (.func 77) #[] #[.pointer (some ⟨w.heap.size, 0, none⟩), .pointer (some ⟨w.heap.size + 1, 0, none⟩), .pointer (some ⟨w.heap.size + 3, 0, none⟩)]], boxO (w.heap.size + 2) [.int .i64 0, .slice none 0 0, .int .i64 0, .int .i64 0, .slice none 0 0, .slice none 0 0, .bool false, .slice none 0 0, .int .i64 0, .int .i64 0, .slice none 0 0], boxO (w.heap.size + 1) (stC p (.slice A2 M.length c2) (.slice Ad2 p.dm.length cd2) (.slice Ao2 p.op.length co2) (.slice Ai2 p.ip.length ci2) (.slice Ac2 p.cb.length cc2)), boxO w.heap.size (stC c (.slice A1 L.length c1) (.slice Ad1 c.dm.length cd1) (.slice Ao1 c.op.length co1) (.slice Ai1 c.ip.length ci1) (.slice Ac1 c.cb.length cc1))] ++ Rw))) (fun s29 _ => leftN 8 s29)
  case atStart => exact ⟨0, 0, { c with set := 0, dm := [] }, L, A1, c1, _, none, 0, 0, Ao1, co1, _, Ai1, ci1, _, Ac1, cc1, _, [], by omega, rfl, rfl, Lib.hid rfl, HF0, J0⟩
  case round =>
    clear J0 HF0
    obtain ⟨i, z, s1, L1, Ab, cb, nb, Ad, cd, nd, Ao, co, no, Ai, ci, ni, Ac, cc, nc, Rw, hin, rfl, hz0, HS, HF, J⟩ := hrel
    by_cases hlt : i < 8
    · rcases (show i = 0 ∨ i = 1 ∨ i = 2 ∨ i = 3 ∨ i = 4 ∨ i = 5 ∨ i = 6 ∨ i = 7 by omega) with rfl | rfl | rfl | rfl | rfl | rfl | rfl | rfl
      · obtain rfl : z = 0 := hz0
        have HB := Lib.hid (show bitB p.set 1 = decide (bits .and .i64 p.set 1 ≠ 0) from rfl)
        obtain ⟨B, hB⟩ : ∃ B, bits .and .i64 p.set 1 = B := ⟨_, rfl⟩
        rw [hB] at HB
        have HK := Lib.hid (show mrgK c p 1 = if bitB p.set 1 = true then stpS 0 c p (mrgK c p 0) else mrgK c p 0 from rfl)
        have tt0 := (show HO w wr ([_] ++ boxO (w.heap.size + 4) _ :: _) from J.out).c 0 rfl
        have tt1 := (show HO w wr ([_] ++ boxO (w.heap.size + 4) _ :: _) from J.out).c 1 rfl
        have tt2 := (show HO w wr ([_] ++ boxO (w.heap.size + 4) _ :: _) from J.out).f.2
        go_upto_region 6 with fail
        replace J := Lib.hid (J.out.alloc [.int .i64 1, .func (.func 70) #[] #[.pointer (some ⟨w.heap.size + 1, 0, none⟩), .pointer (some ⟨w.heap.size + 3, 0, none⟩)]] 83)
        generalize wr.alloc (.cells #[.int .i64 1, .func (.func 70) #[] #[.pointer (some ⟨w.heap.size + 1, 0, none⟩), .pointer (some ⟨w.heap.size + 3, 0, none⟩)]] 83) = u0 at *
        generalize wr.heap.size = kb at *
        clear tt0 tt1 tt2
        obtain ⟨b0, b1, -, bl⟩ := (show HO w u0 ([] ++ boxO kb [_, _] :: _) from J.out).c2
        have p0 := (show HO w u0 ([_, _, _, _] ++ boxO (w.heap.size + 1) _ :: _) from J.out).c 0 rfl
        by_cases hz : B = 0
        · subst hz
          have HK2 := Lib.hid (show mrgK c p 1 = mrgK c p 0 from by rw [HK.out, HB.out]; simp)
          clear HB HK
          go_wp2_with fail
          go_roundw
          case rel => exact ⟨1, 1, s1, L1, Ab, cb, nb, Ad, cd, nd, Ao, co, no, Ai, ci, ni, Ac, cc, nc, Rw, by omega, rfl, rfl, Lib.hid (by rw [HK2.out, HS.out]), HF, Lib.hid J.out.tail⟩
          case measure =>
            unfold leftN
            simp [RowKit.intOf]
        · have hz2 : (B == 0) = false := by simpa using hz
          have HK2 := Lib.hid (show mrgK c p 1 = stpS 0 c p (mrgK c p 0) from by rw [HK.out, HB.out]; simp [hz])
          clear HB HK
          obtain ⟨x0, x1, x2, x3, x4, x5, x6, x7, x8, x9, x10, xf, xl⟩ := (show HO w u0 ([_] ++ boxO (w.heap.size + 3) [_, _, _, _, _, _, _, _, _, _, _] :: _) from J.out).c11
          obtain ⟨y0, y1, y2, y3, y4, y5, y6, y7, y8, y9, y10, -, yl⟩ := (show HO w u0 ([_, _, _, _] ++ boxO (w.heap.size + 1) [_, _, _, _, _, _, _, _, _, _, _] :: _) from J.out).c11
          have CL := Lib.hid (clo70 y1 ⟨_, x1⟩ xf)
          clear x0 x1 x2 x3 x4 x5 x6 x7 x8 x9 x10 y0 y1 y2 y3 y4 y5 y6 y7 y8 y9 y10 xf xl yl
          go_wp2_with fail
          refine CL.out.mono ?_
          rintro e u1 ⟨rfl, rfl⟩
          replace J := Lib.hid ((show HO w u0 ([_] ++ boxO (w.heap.size + 3) [_, _, _, _, _, _, _, _, _, _, _] :: _) from J.out).cell (i := 1) (by simp) (.slice A2 M.length c2))
          clear CL b0 b1 bl p0
          generalize u0.setCell ⟨w.heap.size + 3, 1, none⟩ (.slice A2 M.length c2) = u1 at *
          go_wp2_with fail
          go_roundw
          case rel => exact ⟨1, 1, (stpS 0 c p s1), M, A2, c2, M.length, Ad, cd, nd, Ao, co, no, Ai, ci, ni, Ac, cc, nc, Rw, by omega, rfl, rfl, Lib.hid (by rw [HK2.out, HS.out]), Lib.hid (HF.out.bf HG), Lib.hid J.out.tail⟩
          case measure =>
            unfold leftN
            simp [RowKit.intOf]
      · obtain rfl : z = 1 := hz0
        have HB := Lib.hid (show bitB p.set 2 = decide (bits .and .i64 p.set 2 ≠ 0) from rfl)
        obtain ⟨B, hB⟩ : ∃ B, bits .and .i64 p.set 2 = B := ⟨_, rfl⟩
        rw [hB] at HB
        have HK := Lib.hid (show mrgK c p 2 = if bitB p.set 2 = true then stpS 1 c p (mrgK c p 1) else mrgK c p 1 from rfl)
        have tt0 := (show HO w wr ([_] ++ boxO (w.heap.size + 4) _ :: _) from J.out).c 2 rfl
        have tt1 := (show HO w wr ([_] ++ boxO (w.heap.size + 4) _ :: _) from J.out).c 3 rfl
        have tt2 := (show HO w wr ([_] ++ boxO (w.heap.size + 4) _ :: _) from J.out).f.2
        go_upto_region 6 with fail
        replace J := Lib.hid (J.out.alloc [.int .i64 2, .func (.func 71) #[] #[.pointer (some ⟨w.heap.size + 1, 0, none⟩), .pointer (some ⟨w.heap.size + 3, 0, none⟩)]] 83)
        generalize wr.alloc (.cells #[.int .i64 2, .func (.func 71) #[] #[.pointer (some ⟨w.heap.size + 1, 0, none⟩), .pointer (some ⟨w.heap.size + 3, 0, none⟩)]] 83) = u0 at *
        generalize wr.heap.size = kb at *
        clear tt0 tt1 tt2
        obtain ⟨b0, b1, -, bl⟩ := (show HO w u0 ([] ++ boxO kb [_, _] :: _) from J.out).c2
        have p0 := (show HO w u0 ([_, _, _, _] ++ boxO (w.heap.size + 1) _ :: _) from J.out).c 0 rfl
        by_cases hz : B = 0
        · subst hz
          have HK2 := Lib.hid (show mrgK c p 2 = mrgK c p 1 from by rw [HK.out, HB.out]; simp)
          clear HB HK
          go_wp2_with fail
          go_roundw
          case rel => exact ⟨2, 2, s1, L1, Ab, cb, nb, Ad, cd, nd, Ao, co, no, Ai, ci, ni, Ac, cc, nc, Rw, by omega, rfl, rfl, Lib.hid (by rw [HK2.out, HS.out]), HF, Lib.hid J.out.tail⟩
          case measure =>
            unfold leftN
            simp [RowKit.intOf]
        · have hz2 : (B == 0) = false := by simpa using hz
          have HK2 := Lib.hid (show mrgK c p 2 = stpS 1 c p (mrgK c p 1) from by rw [HK.out, HB.out]; simp [hz])
          clear HB HK
          obtain ⟨x0, x1, x2, x3, x4, x5, x6, x7, x8, x9, x10, xf, xl⟩ := (show HO w u0 ([_] ++ boxO (w.heap.size + 3) [_, _, _, _, _, _, _, _, _, _, _] :: _) from J.out).c11
          obtain ⟨y0, y1, y2, y3, y4, y5, y6, y7, y8, y9, y10, -, yl⟩ := (show HO w u0 ([_, _, _, _] ++ boxO (w.heap.size + 1) [_, _, _, _, _, _, _, _, _, _, _] :: _) from J.out).c11
          have CL := Lib.hid (clo71 y2 ⟨_, x2⟩ xf)
          clear x0 x1 x2 x3 x4 x5 x6 x7 x8 x9 x10 y0 y1 y2 y3 y4 y5 y6 y7 y8 y9 y10 xf xl yl
          go_wp2_with fail
          refine CL.out.mono ?_
          rintro e u1 ⟨rfl, rfl⟩
          replace J := Lib.hid ((show HO w u0 ([_] ++ boxO (w.heap.size + 3) [_, _, _, _, _, _, _, _, _, _, _] :: _) from J.out).cell (i := 2) (by simp) (.int .i64 p.sc))
          clear CL b0 b1 bl p0
          generalize u0.setCell ⟨w.heap.size + 3, 2, none⟩ (.int .i64 p.sc) = u1 at *
          go_wp2_with fail
          go_roundw
          case rel => exact ⟨2, 2, (stpS 1 c p s1), L1, Ab, cb, nb, Ad, cd, nd, Ao, co, no, Ai, ci, ni, Ac, cc, nc, Rw, by omega, rfl, rfl, Lib.hid (by rw [HK2.out, HS.out]), Lib.hid (HF.out.sc HG), Lib.hid J.out.tail⟩
          case measure =>
            unfold leftN
            simp [RowKit.intOf]
      · obtain rfl : z = 2 := hz0
        have HB := Lib.hid (show bitB p.set 4 = decide (bits .and .i64 p.set 4 ≠ 0) from rfl)
        obtain ⟨B, hB⟩ : ∃ B, bits .and .i64 p.set 4 = B := ⟨_, rfl⟩
        rw [hB] at HB
        have HK := Lib.hid (show mrgK c p 3 = if bitB p.set 4 = true then stpS 2 c p (mrgK c p 2) else mrgK c p 2 from rfl)
        have tt0 := (show HO w wr ([_] ++ boxO (w.heap.size + 4) _ :: _) from J.out).c 4 rfl
        have tt1 := (show HO w wr ([_] ++ boxO (w.heap.size + 4) _ :: _) from J.out).c 5 rfl
        have tt2 := (show HO w wr ([_] ++ boxO (w.heap.size + 4) _ :: _) from J.out).f.2
        go_upto_region 6 with fail
        replace J := Lib.hid (J.out.alloc [.int .i64 4, .func (.func 72) #[] #[.pointer (some ⟨w.heap.size + 1, 0, none⟩), .pointer (some ⟨w.heap.size + 3, 0, none⟩)]] 83)
        generalize wr.alloc (.cells #[.int .i64 4, .func (.func 72) #[] #[.pointer (some ⟨w.heap.size + 1, 0, none⟩), .pointer (some ⟨w.heap.size + 3, 0, none⟩)]] 83) = u0 at *
        generalize wr.heap.size = kb at *
        clear tt0 tt1 tt2
        obtain ⟨b0, b1, -, bl⟩ := (show HO w u0 ([] ++ boxO kb [_, _] :: _) from J.out).c2
        have p0 := (show HO w u0 ([_, _, _, _] ++ boxO (w.heap.size + 1) _ :: _) from J.out).c 0 rfl
        by_cases hz : B = 0
        · subst hz
          have HK2 := Lib.hid (show mrgK c p 3 = mrgK c p 2 from by rw [HK.out, HB.out]; simp)
          clear HB HK
          go_wp2_with fail
          go_roundw
          case rel => exact ⟨3, 3, s1, L1, Ab, cb, nb, Ad, cd, nd, Ao, co, no, Ai, ci, ni, Ac, cc, nc, Rw, by omega, rfl, rfl, Lib.hid (by rw [HK2.out, HS.out]), HF, Lib.hid J.out.tail⟩
          case measure =>
            unfold leftN
            simp [RowKit.intOf]
        · have hz2 : (B == 0) = false := by simpa using hz
          have HK2 := Lib.hid (show mrgK c p 3 = stpS 2 c p (mrgK c p 2) from by rw [HK.out, HB.out]; simp [hz])
          clear HB HK
          obtain ⟨x0, x1, x2, x3, x4, x5, x6, x7, x8, x9, x10, xf, xl⟩ := (show HO w u0 ([_] ++ boxO (w.heap.size + 3) [_, _, _, _, _, _, _, _, _, _, _] :: _) from J.out).c11
          obtain ⟨y0, y1, y2, y3, y4, y5, y6, y7, y8, y9, y10, -, yl⟩ := (show HO w u0 ([_, _, _, _] ++ boxO (w.heap.size + 1) [_, _, _, _, _, _, _, _, _, _, _] :: _) from J.out).c11
          have CL := Lib.hid (clo72 y3 ⟨_, x3⟩ xf)
          clear x0 x1 x2 x3 x4 x5 x6 x7 x8 x9 x10 y0 y1 y2 y3 y4 y5 y6 y7 y8 y9 y10 xf xl yl
          go_wp2_with fail
          refine CL.out.mono ?_
          rintro e u1 ⟨rfl, rfl⟩
          replace J := Lib.hid ((show HO w u0 ([_] ++ boxO (w.heap.size + 3) [_, _, _, _, _, _, _, _, _, _, _] :: _) from J.out).cell (i := 3) (by simp) (.int .i64 p.tr))
          clear CL b0 b1 bl p0
          generalize u0.setCell ⟨w.heap.size + 3, 3, none⟩ (.int .i64 p.tr) = u1 at *
          go_wp2_with fail
          go_roundw
          case rel => exact ⟨3, 3, (stpS 2 c p s1), L1, Ab, cb, nb, Ad, cd, nd, Ao, co, no, Ai, ci, ni, Ac, cc, nc, Rw, by omega, rfl, rfl, Lib.hid (by rw [HK2.out, HS.out]), Lib.hid (HF.out.tr HG), Lib.hid J.out.tail⟩
          case measure =>
            unfold leftN
            simp [RowKit.intOf]
      · obtain rfl : z = 3 := hz0
        have HB := Lib.hid (show bitB p.set 8 = decide (bits .and .i64 p.set 8 ≠ 0) from rfl)
        obtain ⟨B, hB⟩ : ∃ B, bits .and .i64 p.set 8 = B := ⟨_, rfl⟩
        rw [hB] at HB
        have HK := Lib.hid (show mrgK c p 4 = if bitB p.set 8 = true then stpS 3 c p (mrgK c p 3) else mrgK c p 3 from rfl)
        have tt0 := (show HO w wr ([_] ++ boxO (w.heap.size + 4) _ :: _) from J.out).c 6 rfl
        have tt1 := (show HO w wr ([_] ++ boxO (w.heap.size + 4) _ :: _) from J.out).c 7 rfl
        have tt2 := (show HO w wr ([_] ++ boxO (w.heap.size + 4) _ :: _) from J.out).f.2
        go_upto_region 6 with fail
        replace J := Lib.hid (J.out.alloc [.int .i64 8, .func (.func 73) #[] #[.pointer (some ⟨w.heap.size + 1, 0, none⟩), .pointer (some ⟨w.heap.size + 3, 0, none⟩)]] 83)
        generalize wr.alloc (.cells #[.int .i64 8, .func (.func 73) #[] #[.pointer (some ⟨w.heap.size + 1, 0, none⟩), .pointer (some ⟨w.heap.size + 3, 0, none⟩)]] 83) = u0 at *
        generalize wr.heap.size = kb at *
        clear tt0 tt1 tt2
        obtain ⟨b0, b1, -, bl⟩ := (show HO w u0 ([] ++ boxO kb [_, _] :: _) from J.out).c2
        have p0 := (show HO w u0 ([_, _, _, _] ++ boxO (w.heap.size + 1) _ :: _) from J.out).c 0 rfl
        by_cases hz : B = 0
        · subst hz
          have HK2 := Lib.hid (show mrgK c p 4 = mrgK c p 3 from by rw [HK.out, HB.out]; simp)
          clear HB HK
          go_wp2_with fail
          go_roundw
          case rel => exact ⟨4, 4, s1, L1, Ab, cb, nb, Ad, cd, nd, Ao, co, no, Ai, ci, ni, Ac, cc, nc, Rw, by omega, rfl, rfl, Lib.hid (by rw [HK2.out, HS.out]), HF, Lib.hid J.out.tail⟩
          case measure =>
            unfold leftN
            simp [RowKit.intOf]
        · have hz2 : (B == 0) = false := by simpa using hz
          have HK2 := Lib.hid (show mrgK c p 4 = stpS 3 c p (mrgK c p 3) from by rw [HK.out, HB.out]; simp [hz])
          clear HB HK
          obtain ⟨x0, x1, x2, x3, x4, x5, x6, x7, x8, x9, x10, xf, xl⟩ := (show HO w u0 ([_] ++ boxO (w.heap.size + 3) [_, _, _, _, _, _, _, _, _, _, _] :: _) from J.out).c11
          obtain ⟨y0, y1, y2, y3, y4, y5, y6, y7, y8, y9, y10, -, yl⟩ := (show HO w u0 ([_, _, _, _] ++ boxO (w.heap.size + 1) [_, _, _, _, _, _, _, _, _, _, _] :: _) from J.out).c11
          have CL := Lib.hid (clo73 y4 ⟨_, x4⟩ xf)
          clear x0 x1 x2 x3 x4 x5 x6 x7 x8 x9 x10 y0 y1 y2 y3 y4 y5 y6 y7 y8 y9 y10 xf xl yl
          go_wp2_with fail
          refine CL.out.mono ?_
          rintro e u1 ⟨rfl, rfl⟩
          replace J := Lib.hid ((show HO w u0 ([_] ++ boxO (w.heap.size + 3) [_, _, _, _, _, _, _, _, _, _, _] :: _) from J.out).cell (i := 4) (by simp) (.slice Ad2 p.dm.length cd2))
          clear CL b0 b1 bl p0
          generalize u0.setCell ⟨w.heap.size + 3, 4, none⟩ (.slice Ad2 p.dm.length cd2) = u1 at *
          go_wp2_with fail
          go_roundw
          case rel => exact ⟨4, 4, (stpS 3 c p s1), L1, Ab, cb, nb, Ad2, cd2, p.dm.length, Ao, co, no, Ai, ci, ni, Ac, cc, nc, Rw, by omega, rfl, rfl, Lib.hid (by rw [HK2.out, HS.out]), Lib.hid (HF.out.dm HG), Lib.hid J.out.tail⟩
          case measure =>
            unfold leftN
            simp [RowKit.intOf]
      · obtain rfl : z = 4 := hz0
        have HB := Lib.hid (show bitB p.set 16 = decide (bits .and .i64 p.set 16 ≠ 0) from rfl)
        obtain ⟨B, hB⟩ : ∃ B, bits .and .i64 p.set 16 = B := ⟨_, rfl⟩
        rw [hB] at HB
        have HK := Lib.hid (show mrgK c p 5 = if bitB p.set 16 = true then stpS 4 c p (mrgK c p 4) else mrgK c p 4 from rfl)
        have tt0 := (show HO w wr ([_] ++ boxO (w.heap.size + 4) _ :: _) from J.out).c 8 rfl
        have tt1 := (show HO w wr ([_] ++ boxO (w.heap.size + 4) _ :: _) from J.out).c 9 rfl
        have tt2 := (show HO w wr ([_] ++ boxO (w.heap.size + 4) _ :: _) from J.out).f.2
        go_upto_region 6 with fail
        replace J := Lib.hid (J.out.alloc [.int .i64 16, .func (.func 74) #[] #[.pointer (some ⟨w.heap.size + 1, 0, none⟩), .pointer (some ⟨w.heap.size + 3, 0, none⟩)]] 83)
        generalize wr.alloc (.cells #[.int .i64 16, .func (.func 74) #[] #[.pointer (some ⟨w.heap.size + 1, 0, none⟩), .pointer (some ⟨w.heap.size + 3, 0, none⟩)]] 83) = u0 at *
        generalize wr.heap.size = kb at *
        clear tt0 tt1 tt2
        obtain ⟨b0, b1, -, bl⟩ := (show HO w u0 ([] ++ boxO kb [_, _] :: _) from J.out).c2
        have p0 := (show HO w u0 ([_, _, _, _] ++ boxO (w.heap.size + 1) _ :: _) from J.out).c 0 rfl
        by_cases hz : B = 0
        · subst hz
          have HK2 := Lib.hid (show mrgK c p 5 = mrgK c p 4 from by rw [HK.out, HB.out]; simp)
          clear HB HK
          go_wp2_with fail
          go_roundw
          case rel => exact ⟨5, 5, s1, L1, Ab, cb, nb, Ad, cd, nd, Ao, co, no, Ai, ci, ni, Ac, cc, nc, Rw, by omega, rfl, rfl, Lib.hid (by rw [HK2.out, HS.out]), HF, Lib.hid J.out.tail⟩
          case measure =>
            unfold leftN
            simp [RowKit.intOf]
        · have hz2 : (B == 0) = false := by simpa using hz
          have HK2 := Lib.hid (show mrgK c p 5 = stpS 4 c p (mrgK c p 4) from by rw [HK.out, HB.out]; simp [hz])
          clear HB HK
          obtain ⟨x0, x1, x2, x3, x4, x5, x6, x7, x8, x9, x10, xf, xl⟩ := (show HO w u0 ([_] ++ boxO (w.heap.size + 3) [_, _, _, _, _, _, _, _, _, _, _] :: _) from J.out).c11
          obtain ⟨y0, y1, y2, y3, y4, y5, y6, y7, y8, y9, y10, -, yl⟩ := (show HO w u0 ([_, _, _, _] ++ boxO (w.heap.size + 1) [_, _, _, _, _, _, _, _, _, _, _] :: _) from J.out).c11
          have CL := Lib.hid (clo74 y5 ⟨_, x5⟩ xf)
          clear x0 x1 x2 x3 x4 x5 x6 x7 x8 x9 x10 y0 y1 y2 y3 y4 y5 y6 y7 y8 y9 y10 xf xl yl
          go_wp2_with fail
          refine CL.out.mono ?_
          rintro e u1 ⟨rfl, rfl⟩
          replace J := Lib.hid ((show HO w u0 ([_] ++ boxO (w.heap.size + 3) [_, _, _, _, _, _, _, _, _, _, _] :: _) from J.out).cell (i := 5) (by simp) (.slice Ao2 p.op.length co2))
          clear CL b0 b1 bl p0
          generalize u0.setCell ⟨w.heap.size + 3, 5, none⟩ (.slice Ao2 p.op.length co2) = u1 at *
          go_wp2_with fail
          go_roundw
          case rel => exact ⟨5, 5, (stpS 4 c p s1), L1, Ab, cb, nb, Ad, cd, nd, Ao2, co2, p.op.length, Ai, ci, ni, Ac, cc, nc, Rw, by omega, rfl, rfl, Lib.hid (by rw [HK2.out, HS.out]), Lib.hid (HF.out.op HG), Lib.hid J.out.tail⟩
          case measure =>
            unfold leftN
            simp [RowKit.intOf]
      · obtain rfl : z = 5 := hz0
        have HB := Lib.hid (show bitB p.set 32 = decide (bits .and .i64 p.set 32 ≠ 0) from rfl)
        obtain ⟨B, hB⟩ : ∃ B, bits .and .i64 p.set 32 = B := ⟨_, rfl⟩
        rw [hB] at HB
        have HK := Lib.hid (show mrgK c p 6 = if bitB p.set 32 = true then stpS 5 c p (mrgK c p 5) else mrgK c p 5 from rfl)
        have tt0 := (show HO w wr ([_] ++ boxO (w.heap.size + 4) _ :: _) from J.out).c 10 rfl
        have tt1 := (show HO w wr ([_] ++ boxO (w.heap.size + 4) _ :: _) from J.out).c 11 rfl
        have tt2 := (show HO w wr ([_] ++ boxO (w.heap.size + 4) _ :: _) from J.out).f.2
        go_upto_region 6 with fail
        replace J := Lib.hid (J.out.alloc [.int .i64 32, .func (.func 75) #[] #[.pointer (some ⟨w.heap.size + 1, 0, none⟩), .pointer (some ⟨w.heap.size + 3, 0, none⟩)]] 83)
        generalize wr.alloc (.cells #[.int .i64 32, .func (.func 75) #[] #[.pointer (some ⟨w.heap.size + 1, 0, none⟩), .pointer (some ⟨w.heap.size + 3, 0, none⟩)]] 83) = u0 at *
        generalize wr.heap.size = kb at *
        clear tt0 tt1 tt2
        obtain ⟨b0, b1, -, bl⟩ := (show HO w u0 ([] ++ boxO kb [_, _] :: _) from J.out).c2
        have p0 := (show HO w u0 ([_, _, _, _] ++ boxO (w.heap.size + 1) _ :: _) from J.out).c 0 rfl
        by_cases hz : B = 0
        · subst hz
          have HK2 := Lib.hid (show mrgK c p 6 = mrgK c p 5 from by rw [HK.out, HB.out]; simp)
          clear HB HK
          go_wp2_with fail
          go_roundw
          case rel => exact ⟨6, 6, s1, L1, Ab, cb, nb, Ad, cd, nd, Ao, co, no, Ai, ci, ni, Ac, cc, nc, Rw, by omega, rfl, rfl, Lib.hid (by rw [HK2.out, HS.out]), HF, Lib.hid J.out.tail⟩
          case measure =>
            unfold leftN
            simp [RowKit.intOf]
        · have hz2 : (B == 0) = false := by simpa using hz
          have HK2 := Lib.hid (show mrgK c p 6 = stpS 5 c p (mrgK c p 5) from by rw [HK.out, HB.out]; simp [hz])
          clear HB HK
          obtain ⟨x0, x1, x2, x3, x4, x5, x6, x7, x8, x9, x10, xf, xl⟩ := (show HO w u0 ([_] ++ boxO (w.heap.size + 3) [_, _, _, _, _, _, _, _, _, _, _] :: _) from J.out).c11
          obtain ⟨y0, y1, y2, y3, y4, y5, y6, y7, y8, y9, y10, -, yl⟩ := (show HO w u0 ([_, _, _, _] ++ boxO (w.heap.size + 1) [_, _, _, _, _, _, _, _, _, _, _] :: _) from J.out).c11
          have CL := Lib.hid (clo75 y6 y7 ⟨⟨_, x6⟩, ⟨_, x7⟩⟩ xf)
          clear x0 x1 x2 x3 x4 x5 x6 x7 x8 x9 x10 y0 y1 y2 y3 y4 y5 y6 y7 y8 y9 y10 xf xl yl
          go_wp2_with fail
          refine CL.out.mono ?_
          rintro e u1 ⟨rfl, rfl⟩
          replace J := Lib.hid ((show HO w _ ([_] ++ boxO (w.heap.size + 3) [_, _, _, _, _, _, _, _, _, _, _] :: _) from ((show HO w u0 ([_] ++ boxO (w.heap.size + 3) [_, _, _, _, _, _, _, _, _, _, _] :: _) from J.out).cell (i := 6) (by simp) (.bool p.is))).cell (i := 7) (by simp) (.slice Ai2 p.ip.length ci2))
          clear CL b0 b1 bl p0
          generalize (u0.setCell ⟨w.heap.size + 3, 6, none⟩ (.bool p.is)).setCell ⟨w.heap.size + 3, 7, none⟩ (.slice Ai2 p.ip.length ci2) = u1 at *
          go_wp2_with fail
          go_roundw
          case rel => exact ⟨6, 6, (stpS 5 c p s1), L1, Ab, cb, nb, Ad, cd, nd, Ao, co, no, Ai2, ci2, p.ip.length, Ac, cc, nc, Rw, by omega, rfl, rfl, Lib.hid (by rw [HK2.out, HS.out]), Lib.hid (HF.out.ip HG), Lib.hid J.out.tail⟩
          case measure =>
            unfold leftN
            simp [RowKit.intOf]
      · obtain rfl : z = 6 := hz0
        have HB := Lib.hid (show bitB p.set 64 = decide (bits .and .i64 p.set 64 ≠ 0) from rfl)
        obtain ⟨B, hB⟩ : ∃ B, bits .and .i64 p.set 64 = B := ⟨_, rfl⟩
        rw [hB] at HB
        have HK := Lib.hid (show mrgK c p 7 = if bitB p.set 64 = true then stpS 6 c p (mrgK c p 6) else mrgK c p 6 from rfl)
        have tt0 := (show HO w wr ([_] ++ boxO (w.heap.size + 4) _ :: _) from J.out).c 12 rfl
        have tt1 := (show HO w wr ([_] ++ boxO (w.heap.size + 4) _ :: _) from J.out).c 13 rfl
        have tt2 := (show HO w wr ([_] ++ boxO (w.heap.size + 4) _ :: _) from J.out).f.2
        go_upto_region 6 with fail
        replace J := Lib.hid (J.out.alloc [.int .i64 64, .func (.func 76) #[] #[.pointer (some ⟨w.heap.size + 1, 0, none⟩), .pointer (some ⟨w.heap.size + 3, 0, none⟩)]] 83)
        generalize wr.alloc (.cells #[.int .i64 64, .func (.func 76) #[] #[.pointer (some ⟨w.heap.size + 1, 0, none⟩), .pointer (some ⟨w.heap.size + 3, 0, none⟩)]] 83) = u0 at *
        generalize wr.heap.size = kb at *
        clear tt0 tt1 tt2
        obtain ⟨b0, b1, -, bl⟩ := (show HO w u0 ([] ++ boxO kb [_, _] :: _) from J.out).c2
        have p0 := (show HO w u0 ([_, _, _, _] ++ boxO (w.heap.size + 1) _ :: _) from J.out).c 0 rfl
        by_cases hz : B = 0
        · subst hz
          have HK2 := Lib.hid (show mrgK c p 7 = mrgK c p 6 from by rw [HK.out, HB.out]; simp)
          clear HB HK
          go_wp2_with fail
          go_roundw
          case rel => exact ⟨7, 7, s1, L1, Ab, cb, nb, Ad, cd, nd, Ao, co, no, Ai, ci, ni, Ac, cc, nc, Rw, by omega, rfl, rfl, Lib.hid (by rw [HK2.out, HS.out]), HF, Lib.hid J.out.tail⟩
          case measure =>
            unfold leftN
            simp [RowKit.intOf]
        · have hz2 : (B == 0) = false := by simpa using hz
          have HK2 := Lib.hid (show mrgK c p 7 = stpS 6 c p (mrgK c p 6) from by rw [HK.out, HB.out]; simp [hz])
          clear HB HK
          obtain ⟨x0, x1, x2, x3, x4, x5, x6, x7, x8, x9, x10, xf, xl⟩ := (show HO w u0 ([_] ++ boxO (w.heap.size + 3) [_, _, _, _, _, _, _, _, _, _, _] :: _) from J.out).c11
          obtain ⟨y0, y1, y2, y3, y4, y5, y6, y7, y8, y9, y10, -, yl⟩ := (show HO w u0 ([_, _, _, _] ++ boxO (w.heap.size + 1) [_, _, _, _, _, _, _, _, _, _, _] :: _) from J.out).c11
          have CL := Lib.hid (clo76 y8 y9 ⟨⟨_, x8⟩, ⟨_, x9⟩⟩ xf)
          clear x0 x1 x2 x3 x4 x5 x6 x7 x8 x9 x10 y0 y1 y2 y3 y4 y5 y6 y7 y8 y9 y10 xf xl yl
          go_wp2_with fail
          refine CL.out.mono ?_
          rintro e u1 ⟨rfl, rfl⟩
          replace J := Lib.hid ((show HO w _ ([_] ++ boxO (w.heap.size + 3) [_, _, _, _, _, _, _, _, _, _, _] :: _) from ((show HO w u0 ([_] ++ boxO (w.heap.size + 3) [_, _, _, _, _, _, _, _, _, _, _] :: _) from J.out).cell (i := 8) (by simp) (.int .i64 p.dx))).cell (i := 9) (by simp) (.int .i64 p.dy))
          clear CL b0 b1 bl p0
          generalize (u0.setCell ⟨w.heap.size + 3, 8, none⟩ (.int .i64 p.dx)).setCell ⟨w.heap.size + 3, 9, none⟩ (.int .i64 p.dy) = u1 at *
          go_wp2_with fail
          go_roundw
          case rel => exact ⟨7, 7, (stpS 6 c p s1), L1, Ab, cb, nb, Ad, cd, nd, Ao, co, no, Ai, ci, ni, Ac, cc, nc, Rw, by omega, rfl, rfl, Lib.hid (by rw [HK2.out, HS.out]), Lib.hid (HF.out.dd HG), Lib.hid J.out.tail⟩
          case measure =>
            unfold leftN
            simp [RowKit.intOf]
      · obtain rfl : z = 7 := hz0
        have HB := Lib.hid (show bitB p.set 128 = decide (bits .and .i64 p.set 128 ≠ 0) from rfl)
        obtain ⟨B, hB⟩ : ∃ B, bits .and .i64 p.set 128 = B := ⟨_, rfl⟩
        rw [hB] at HB
        have HK := Lib.hid (show mrgK c p 8 = if bitB p.set 128 = true then stpS 7 c p (mrgK c p 7) else mrgK c p 7 from rfl)
        have tt0 := (show HO w wr ([_] ++ boxO (w.heap.size + 4) _ :: _) from J.out).c 14 rfl
        have tt1 := (show HO w wr ([_] ++ boxO (w.heap.size + 4) _ :: _) from J.out).c 15 rfl
        have tt2 := (show HO w wr ([_] ++ boxO (w.heap.size + 4) _ :: _) from J.out).f.2
        go_upto_region 6 with fail
        replace J := Lib.hid (J.out.alloc [.int .i64 128, .func (.func 77) #[] #[.pointer (some ⟨w.heap.size, 0, none⟩), .pointer (some ⟨w.heap.size + 1, 0, none⟩), .pointer (some ⟨w.heap.size + 3, 0, none⟩)]] 83)
        generalize wr.alloc (.cells #[.int .i64 128, .func (.func 77) #[] #[.pointer (some ⟨w.heap.size, 0, none⟩), .pointer (some ⟨w.heap.size + 1, 0, none⟩), .pointer (some ⟨w.heap.size + 3, 0, none⟩)]] 83) = u0 at *
        generalize wr.heap.size = kb at *
        clear tt0 tt1 tt2
        obtain ⟨b0, b1, -, bl⟩ := (show HO w u0 ([] ++ boxO kb [_, _] :: _) from J.out).c2
        have p0 := (show HO w u0 ([_, _, _, _] ++ boxO (w.heap.size + 1) _ :: _) from J.out).c 0 rfl
        by_cases hz : B = 0
        · subst hz
          have HK2 := Lib.hid (show mrgK c p 8 = mrgK c p 7 from by rw [HK.out, HB.out]; simp)
          clear HB HK
          go_wp2_with fail
          go_roundw
          case rel => exact ⟨8, 8, s1, L1, Ab, cb, nb, Ad, cd, nd, Ao, co, no, Ai, ci, ni, Ac, cc, nc, Rw, by omega, rfl, rfl, Lib.hid (by rw [HK2.out, HS.out]), HF, Lib.hid J.out.tail⟩
          case measure =>
            unfold leftN
            simp [RowKit.intOf]
        · have hz2 : (B == 0) = false := by simpa using hz
          have HK2 := Lib.hid (show mrgK c p 8 = stpS 7 c p (mrgK c p 7) from by rw [HK.out, HB.out]; simp [hz])
          clear HB HK
          obtain ⟨x0, x1, x2, x3, x4, x5, x6, x7, x8, x9, x10, xf, xl⟩ := (show HO w u0 ([_] ++ boxO (w.heap.size + 3) [_, _, _, _, _, _, _, _, _, _, _] :: _) from J.out).c11
          obtain ⟨y0, y1, y2, y3, y4, y5, y6, y7, y8, y9, y10, -, yl⟩ := (show HO w u0 ([_, _, _, _] ++ boxO (w.heap.size + 1) [_, _, _, _, _, _, _, _, _, _, _] :: _) from J.out).c11
          obtain ⟨z0, z1, z2, z3, z4, z5, z6, z7, z8, z9, z10, -, zl⟩ := (show HO w u0 ([_, _, _, _, _] ++ boxO w.heap.size [_, _, _, _, _, _, _, _, _, _, _] :: _) from J.out).c11
          have CL := Lib.hid (clo77 zl yl xl z10 y10 (HC1.out.below J.out.below) (HC2.out.below J.out.below) hcb hpb ⟨_, x10⟩ xf)
          clear x0 x1 x2 x3 x4 x5 x6 x7 x8 x9 x10 y0 y1 y2 y3 y4 y5 y6 y7 y8 y9 y10 xf xl yl z0 z1 z2 z3 z4 z5 z6 z7 z8 z9 z10 zl
          go_wp2_with fail
          refine CL.out.mono ?_
          rintro e u2 ⟨A9, c9, W9, rfl, hb9, ho9, rfl⟩
          replace J := Lib.hid (J.out.rowB hb9 (ownO_mono ho9 J.out.below.size) (fun k hk => (World.ownsRow.lt ho9 k hk).1))
          replace J := Lib.hid ((show HO w W9 ([_, _] ++ boxO (w.heap.size + 3) [_, _, _, _, _, _, _, _, _, _, _] :: _) from J.out).cell (i := 10) (by simp) (.slice A9 (c.cb ++ p.cb).length c9))
          clear CL b0 b1 bl p0 hb9 ho9
          generalize W9.setCell ⟨w.heap.size + 3, 10, none⟩ (.slice A9 (c.cb ++ p.cb).length c9) = u1 at *
          go_wp2_with fail
          go_roundw
          case rel => exact ⟨8, 8, (stpS 7 c p s1), L1, Ab, cb, nb, Ad, cd, nd, Ao, co, no, Ai, ci, ni, A9, c9, (c.cb ++ p.cb).length, (rowO w.heap.size 50 1 (.slice A9 (c.cb ++ p.cb).length c9) (c.cb ++ p.cb).length (uL (c.cb ++ p.cb)) :: Rw), by omega, rfl, rfl, Lib.hid (by rw [HK2.out, HS.out]), Lib.hid (HF.out.cb9), Lib.hid (J.out.perm (mh_perm _ _ [_, _, _, _, _] _)).tail⟩
          case measure =>
            unfold leftN
            simp [RowKit.intOf]
    · obtain rfl : i = 8 := by omega
      obtain rfl : z = 8 := hz0
      obtain ⟨x0, x1, x2, x3, x4, x5, x6, x7, x8, x9, x10, xf, xl⟩ := (show HO w wr ([] ++ boxO (w.heap.size + 3) [_, _, _, _, _, _, _, _, _, _, _] :: _) from J.out).c11
      obtain ⟨y0, y1, y2, y3, y4, y5, y6, y7, y8, y9, y10, yf, yl⟩ := (show HO w wr ([_, _] ++ boxO (w.heap.size + 2) [_, _, _, _, _, _, _, _, _, _, _] :: _) from J.out).c11
      have J2 := Lib.hid ((show HO w wr ([_, _] ++ boxO (w.heap.size + 2) [_, _, _, _, _, _, _, _, _, _, _] :: _) from J.out).set11 (.int .i64 s1.set) (.slice Ab nb cb) (.int .i64 s1.sc) (.int .i64 s1.tr) (.slice Ad nd cd) (.slice Ao no co) (.bool s1.is) (.slice Ai ni ci) (.int .i64 s1.dx) (.int .i64 s1.dy) (.slice Ac nc cc))
      go_wp2_with fail
      obtain ⟨t0, t1, t2, t3, t4, t5, t6, t7, t8, t9, t10, -, -⟩ := (show HO w _ ([_, _] ++ boxO (w.heap.size + 2) [_, _, _, _, _, _, _, _, _, _, _] :: _) from J2.out).c11
      refine bodyPost_ret (v := stV s1 (.slice Ab nb cb) (.slice Ad nd cd) (.slice Ao no co) (.slice Ai ni ci) (.slice Ac nc cc)) (by simp [results, Tryz.results49, go_sem, t0, t1, t2, t3, t4, t5, t6, t7, t8, t9, t10]) rfl ?_
      refine ⟨L1, _, _, _, _, _, by rw [HS.out]; rfl, ?_, J2.out.below⟩
      have hs := HS.out
      rw [show mrgS c p = s1 from hs.symm]
      exact HF.out _ J2.out.below (fun o ho => J2.out.says o (by simp [ho]))

end Go.Proofs.YthedglfocjljjaaGreatDoor
