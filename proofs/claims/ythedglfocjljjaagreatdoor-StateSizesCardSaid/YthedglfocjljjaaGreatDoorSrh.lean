/-
  The reference's state: Same of equal states.
-/
import Derived.Test.YthedglfocjljjaaGreatDoorSrg
import Derived.Test.YthedglfocjljjaaGreatDoorTrc
namespace Go.Proofs.YthedglfocjljjaaGreatDoor
open Go.RowKit

def toT (p : Px) : Trf.Px := ⟨p.r, p.g, p.b, p.a⟩
theorem pxs_T {w : World} {v : Value} {l : List Px} (h : Pxs w v l) : Trf.Pxs w v (l.map toT) := by
  obtain ⟨A, cap, hv, h1, h2, h4⟩ := h
  refine ⟨A, cap, by rw [List.length_map]; exact hv, by rw [List.length_map]; exact h1, h2, fun hn => ?_⟩
  rw [List.length_map] at hn
  obtain ⟨b, off, hA, hlt, hc⟩ := h4 hn
  refine ⟨b, off, hA, hlt, fun j p hj => ?_⟩
  rw [List.getElem?_map, Option.map_eq_some_iff] at hj
  obtain ⟨q, hq, rfl⟩ := hj
  exact hc j q hq
theorem u_cells {w W : World} {A : Option Addr} {n c : Nat} {l : List Nat} (h : Sn w 1 (.slice A n c) n (uL l)) (hn : 0 < n) (hb : Below w.heap.size w W) : ∃ b off, A = some ⟨b, off, none⟩ ∧ b < W.heap.size ∧ ∀ (j x : Nat), l[j]? = some x → W.cell? ⟨b, off + j, none⟩ = some (.int .u32 (x : Int)) := by
  obtain ⟨b, off, hA, hlt, hc⟩ := h.at hn hb
  exact ⟨b, off, hA, hlt, fun j x hj => hc j _ (by simp [hj])⟩

set_option maxRecDepth 100000 in
set_option maxHeartbeats 8000000 in
theorem rsame_any {w : World} {s : St} {L M : List Bv} {vb vd vo vi vc ub ud uo ui uc : Value} (h : StAt w s L vb vd vo vi vc) (g : StAt w s M ub ud uo ui uc) :
    Calls Tryz.prog 14 #[stV s vb vd vo vi vc, stV s ub ud uo ui uc] w fun e w' => e = .returned (.bool true) ∧ Below w.heap.size w w' := by
  have S1 := fun (W : World) (hb : Below w.heap.size w W) => Lib.hid (Rgn.same_true (rgn_rs (sn_rs (h.dm.below hb))) (rgn_rs (sn_rs (g.dm.below hb))))
  have S2 := fun (W : World) (hb : Below w.heap.size w W) => Lib.hid (Rgn.same_true (rgn_rs (sn_rs (h.op.below hb))) (rgn_rs (sn_rs (g.op.below hb))))
  have S3 := fun (W : World) (hb : Below w.heap.size w W) => Lib.hid (Rgn.same_true (rgn_rs (sn_rs (h.ip.below hb))) (rgn_rs (sn_rs (g.ip.below hb))))
  have HL := Lib.hid h.bf
  have HM := Lib.hid g.bf
  have CL := Lib.hid h.cb
  have CM := Lib.hid g.cb
  have PL := Lib.hid (And.intro h.px g.px)
  have EQ := Lib.hid (And.intro h.eq g.eq)
  have hml : M.length = L.length := by rw [← h.len, ← g.len]
  obtain ⟨A, c, rfl, h1, h2⟩ := h.bf.shape
  obtain ⟨Ad, cd, rfl, hd1, hd2⟩ := h.dm.shape
  obtain ⟨Ao, co, rfl, ho1, ho2⟩ := h.op.shape
  obtain ⟨Ai, ci, rfl, hi1, hi2⟩ := h.ip.shape
  obtain ⟨Ac, cc, rfl, hc1, hc2⟩ := h.cb.shape
  obtain ⟨B, e, rfl, g1, g2⟩ := g.bf.shape
  obtain ⟨Bd, ed, rfl, gd1, gd2⟩ := g.dm.shape
  obtain ⟨Bo, eo, rfl, go1, go2⟩ := g.op.shape
  obtain ⟨Bi, ei, rfl, gi1, gi2⟩ := g.ip.shape
  obtain ⟨Bc, ec, rfl, gc1, gc2⟩ := g.cb.shape
  simp only [maxLen] at h2 hd2 ho2 hi2 hc2 g2 gd2 go2 gi2 gc2
  clear h g
  rw [hml] at HM g1 ⊢
  obtain ⟨n, hn⟩ : ∃ n, L.length = n := ⟨_, rfl⟩
  have HN := Lib.hid (And.intro hn (hml.trans hn))
  rw [hn] at HL HM h1 g1 ⊢
  clear hn hml
  obtain ⟨nc, hnc⟩ : ∃ n, s.cb.length = n := ⟨_, rfl⟩
  have HC := Lib.hid hnc
  rw [hnc] at CL CM hc1 gc1 ⊢
  clear hnc
  generalize s.dm.length = nd at *
  generalize s.op.length = no at *
  generalize s.ip.length = ni at *
  have J := Lib.hid (show HO w ((w.alloc (.cells (stC s (.slice A n c) (.slice Ad nd cd) (.slice Ao no co) (.slice Ai ni ci) (.slice Ac nc cc)).toArray 28)).alloc (.cells (stC s (.slice B n e) (.slice Bd nd ed) (.slice Bo no eo) (.slice Bi ni ei) (.slice Bc nc ec)).toArray 28)) [boxO (w.heap.size + 1) (stC s (.slice B n e) (.slice Bd nd ed) (.slice Bo no eo) (.slice Bi ni ei) (.slice Bc nc ec)), boxO w.heap.size (stC s (.slice A n c) (.slice Ad nd cd) (.slice Ao no co) (.slice Ai ni ci) (.slice Ac nc cc))] from by
    have h := ((HO.nil w).alloc (stC s (.slice A n c) (.slice Ad nd cd) (.slice Ao no co) (.slice Ai ni ci) (.slice Ac nc cc)) 28).alloc (stC s (.slice B n e) (.slice Bd nd ed) (.slice Bo no eo) (.slice Bi ni ei) (.slice Bc nc ec)) 28
    rw [World.size_alloc] at h
    exact h)
  go_enter Tryz.func14, Tryz.ntmps14
  go_wp2_with fail
  go_loopw [5] (fun s5 wr => ∃ (i : Nat), i ≤ n ∧ s5 = .int .i64 (i : Int) ∧ Hid (HO w wr [boxO (w.heap.size + 1) (stC s (.slice B n e) (.slice Bd nd ed) (.slice Bo no eo) (.slice Bi ni ei) (.slice Bc nc ec)), boxO w.heap.size (stC s (.slice A n c) (.slice Ad nd cd) (.slice Ao no co) (.slice Ai ni ci) (.slice Ac nc cc))])) (fun s5 _ => leftN n s5)
  case atStart => exact ⟨0, Nat.zero_le _, rfl, J⟩
  case round =>
    clear J
    obtain ⟨i, hin, rfl, J⟩ := hrel
    have k1 := (show HO w wr ([_] ++ boxO w.heap.size _ :: _) from J.out).c 1 rfl
    have k2 := (show HO w wr ([] ++ boxO (w.heap.size + 1) _ :: _) from J.out).c 1 rfl
    by_cases hlt : i < n
    · have q0 : (0 : Int) ≤ i := by omega
      have q1 : (i : Int) < n := by omega
      obtain ⟨p, hp⟩ : ∃ p, L[i]? = some p := ⟨_, List.getElem?_eq_getElem (by rw [HN.out.1]; exact hlt)⟩
      obtain ⟨q, hq⟩ : ∃ p, M[i]? = some p := ⟨_, List.getElem?_eq_getElem (by rw [HN.out.2]; exact hlt)⟩
      have hpq : p.1 = q.1 := by
        have e1 : (L.map Prod.fst)[i]? = some p.1 := by rw [List.getElem?_map, hp]; rfl
        have e2 : (M.map Prod.fst)[i]? = some q.1 := by rw [List.getElem?_map, hq]; rfl
        rw [EQ.out.1] at e1
        rw [EQ.out.2, e1] at e2
        exact Option.some.inj e2
      obtain ⟨b0, off0, rfl, hb0, hc0⟩ := bf_cells HL.out (by omega) J.out.below
      obtain ⟨b9, off9, rfl, hb9, hc9⟩ := bf_cells HM.out (by omega) J.out.below
      obtain ⟨x0, x1, x2⟩ := hc0 i p hp
      obtain ⟨y0, y1, y2⟩ := hc9 i q hq
      have hpx := PL.out.1 p (List.mem_of_getElem? hp)
      have hqx := PL.out.2 q (List.mem_of_getElem? hq)
      rw [← hpq] at hqx y0 y1
      have CS := fun (W : World) (hb : Below w.heap.size w W) => Lib.hid (Trf.rsame_true p.1.a p.1.b (pxs_T (hpx.below hb)) (pxs_T (hqx.below hb)))
      obtain ⟨Ap, cp, hvp, -, -⟩ := hpx.shape
      obtain ⟨Aq, cq, hvq, -, -⟩ := hqx.shape
      rw [hvp] at x2 CS
      rw [hvq] at y2 CS
      generalize p.1.a = pa at *
      generalize p.1.b = pb at *
      generalize p.1.l.length = pn at *
      clear hc0 hc9 hp hq hpq hpx hqx hvp hvq
      go_upto_region 6 with fail
      replace J := Lib.hid J.out.drew
      go_region_held3 (fun W => W.cell? ⟨w.heap.size, 1, none⟩ = some (.slice (some ⟨b0, off0, none⟩) n c) ∧ W.cell? ⟨w.heap.size + 1, 1, none⟩ = some (.slice (some ⟨b9, off9, none⟩) n e) ∧ (W.cell? ⟨b0, off0 + i * 3, none⟩ = some (.int .i64 pa) ∧ W.cell? ⟨b0, off0 + i * 3 + 1, none⟩ = some (.int .i64 pb) ∧ W.cell? ⟨b0, off0 + i * 3 + 2, none⟩ = some (.slice Ap pn cp)) ∧ W.cell? ⟨b9, off9 + i * 3, none⟩ = some (.int .i64 pa) ∧ W.cell? ⟨b9, off9 + i * 3 + 1, none⟩ = some (.int .i64 pb) ∧ W.cell? ⟨b9, off9 + i * 3 + 2, none⟩ = some (.slice Aq pn cq))
        (first
          | exact ⟨k1, k2, ⟨x0, x1, x2⟩, y0, y1, y2⟩
          | exact sk2
          | go_keep)
        (first
          | (go_at_call 28; (with_reducible refine (CS _ J.out.below).out.mono ?_); rintro er wq ⟨rfl, hbq⟩; have sk2 := And.intro ((hbq.cell (p := ⟨w.heap.size, 1, none⟩) (show HO w _ ([_] ++ boxO w.heap.size _ :: _) from J.out).f.2).trans k1) (And.intro ((hbq.cell (p := ⟨w.heap.size + 1, 1, none⟩) (show HO w _ ([] ++ boxO (w.heap.size + 1) _ :: _) from J.out).f.2).trans k2) (And.intro (And.intro ((hbq.cell (p := ⟨b0, off0 + i * 3, none⟩) hb0).trans x0) (And.intro ((hbq.cell (p := ⟨b0, off0 + i * 3 + 1, none⟩) hb0).trans x1) ((hbq.cell (p := ⟨b0, off0 + i * 3 + 2, none⟩) hb0).trans x2))) (And.intro ((hbq.cell (p := ⟨b9, off9 + i * 3, none⟩) hb9).trans y0) (And.intro ((hbq.cell (p := ⟨b9, off9 + i * 3 + 1, none⟩) hb9).trans y1) ((hbq.cell (p := ⟨b9, off9 + i * 3 + 2, none⟩) hb9).trans y2))))); replace J := Lib.hid (J.out.step hbq); clear hbq)
          | fail)
      clear k1 k2 x0 x1 x2 y0 y1 y2 CS sk2
      go_wp2_with fail
      go_roundw
      case rel => exact ⟨i + 1, by omega, by go_num, J⟩
      case measure =>
        unfold leftN
        simp [RowKit.intOf]
        omega
    · obtain rfl : n = i := by omega
      go_wp2_with fail
      go_loopw [6] (fun s6 wr => ∃ (j : Nat), j ≤ nc ∧ s6 = .int .i64 (j : Int) ∧ Hid (HO w wr [boxO (w.heap.size + 1) (stC s (.slice B n e) (.slice Bd nd ed) (.slice Bo no eo) (.slice Bi ni ei) (.slice Bc nc ec)), boxO w.heap.size (stC s (.slice A n c) (.slice Ad nd cd) (.slice Ao no co) (.slice Ai ni ci) (.slice Ac nc cc))])) (fun s6 _ => leftN nc s6)
      case atStart => exact ⟨0, Nat.zero_le _, rfl, J⟩
      case round =>
        clear J k1 k2
        obtain ⟨j, hjn, rfl, J⟩ := hrel
        have k1 := (show HO w wr ([_] ++ boxO w.heap.size _ :: _) from J.out).c 10 rfl
        have k2 := (show HO w wr ([] ++ boxO (w.heap.size + 1) _ :: _) from J.out).c 10 rfl
        by_cases hlt2 : j < nc
        · have q0 : (0 : Int) ≤ j := by omega
          have q1 : (j : Int) < nc := by omega
          obtain ⟨x, hx⟩ : ∃ x, s.cb[j]? = some x := ⟨_, List.getElem?_eq_getElem (by rw [HC.out]; exact hlt2)⟩
          obtain ⟨b0, off0, rfl, hb0, hc0⟩ := u_cells CL.out (by omega) J.out.below
          obtain ⟨b9, off9, rfl, hb9, hc9⟩ := u_cells CM.out (by omega) J.out.below
          have x0 := hc0 j x hx
          have y0 := hc9 j x hx
          clear hc0 hc9 hx
          go_upto_region 11 with fail
          replace J := Lib.hid J.out.drew
          go_region_held3 (fun W => W.cell? ⟨w.heap.size, 10, none⟩ = some (.slice (some ⟨b0, off0, none⟩) nc cc) ∧ W.cell? ⟨w.heap.size + 1, 10, none⟩ = some (.slice (some ⟨b9, off9, none⟩) nc ec) ∧ W.cell? ⟨b0, off0 + j, none⟩ = some (.int .u32 (x : Int)) ∧ W.cell? ⟨b9, off9 + j, none⟩ = some (.int .u32 (x : Int)))
            (first
              | exact ⟨k1, k2, x0, y0⟩
              | go_keep)
            (fail)
          clear k1 k2 x0 y0
          go_wp2_with fail
          go_roundw
          case rel => exact ⟨j + 1, by omega, by go_num, J⟩
          case measure =>
            unfold leftN
            simp [RowKit.intOf]
            omega
        · obtain rfl : nc = j := by omega
          obtain ⟨x0, x1, x2, x3, x4, x5, x6, x7, x8, x9, x10, xf, xl⟩ := (show HO w wr ([_] ++ boxO w.heap.size [_, _, _, _, _, _, _, _, _, _, _] :: []) from J.out).c11
          obtain ⟨y0, y1, y2, y3, y4, y5, y6, y7, y8, y9, y10, yf, yl⟩ := (show HO w wr ([] ++ boxO (w.heap.size + 1) [_, _, _, _, _, _, _, _, _, _, _] :: _) from J.out).c11
          clear k1 k2
          go_wp2_with fail
          refine (S1 _ J.out.below).out.mono ?_
          rintro er w5 ⟨rfl, hb⟩
          replace J := Lib.hid (J.out.step hb)
          clear hb x0 x1 x2 x3 x4 x5 x6 x7 x8 x9 x10 xf xl y0 y1 y2 y3 y4 y5 y6 y7 y8 y9 y10 yf yl
          obtain ⟨x0, x1, x2, x3, x4, x5, x6, x7, x8, x9, x10, xf, xl⟩ := (show HO w w5 ([_] ++ boxO w.heap.size [_, _, _, _, _, _, _, _, _, _, _] :: []) from J.out).c11
          obtain ⟨y0, y1, y2, y3, y4, y5, y6, y7, y8, y9, y10, yf, yl⟩ := (show HO w w5 ([] ++ boxO (w.heap.size + 1) [_, _, _, _, _, _, _, _, _, _, _] :: _) from J.out).c11
          go_wp2_with fail
          refine (S2 _ J.out.below).out.mono ?_
          rintro er w6 ⟨rfl, hb⟩
          replace J := Lib.hid (J.out.step hb)
          clear hb x0 x1 x2 x3 x4 x5 x6 x7 x8 x9 x10 xf xl y0 y1 y2 y3 y4 y5 y6 y7 y8 y9 y10 yf yl
          obtain ⟨x0, x1, x2, x3, x4, x5, x6, x7, x8, x9, x10, xf, xl⟩ := (show HO w w6 ([_] ++ boxO w.heap.size [_, _, _, _, _, _, _, _, _, _, _] :: []) from J.out).c11
          obtain ⟨y0, y1, y2, y3, y4, y5, y6, y7, y8, y9, y10, yf, yl⟩ := (show HO w w6 ([] ++ boxO (w.heap.size + 1) [_, _, _, _, _, _, _, _, _, _, _] :: _) from J.out).c11
          go_wp2_with fail
          refine (S3 _ J.out.below).out.mono ?_
          rintro er w7 ⟨rfl, hb⟩
          replace J := Lib.hid (J.out.step hb)
          clear hb
          go_wp2_with fail
          go_ret
          exact ⟨rfl, J.out.below⟩

end Go.Proofs.YthedglfocjljjaaGreatDoor
