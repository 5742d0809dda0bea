/-
  Subtract of the reference: the parts of the difference that are not empty.
-/
import Derived.Test.YtalklenngalfjaaRint
import Derived.Test.YtalklenngalfjaaRs
import Derived.Test.YtalklenngalfjaaSub
namespace Go.Proofs.Ytalklenngalfjaa
open Go.RowKit

def RSubs (a b : R) (w : World) (e : Ending) (w' : World) : Prop := ∃ v, e = .returned v ∧ Rs w' v (subR a b) ∧ Below w.heap.size w w'

theorem sub_none {a b : R} (h : empB a = true) : subR a b = [] := by
  simp [subR, partsR, int_emp_l h, emp_zero, fullR, h]

theorem sub_whole {a b : R} (h : empB a = false) (h2 : empB (intR a b) = true) : subR a b = [a] := by
  simp [subR, partsR, h2, fullR, h]

theorem rs_one (w : World) (r : R) : Rs (w.alloc (.cells #[.int .i64 r.x0, .int .i64 r.y0, .int .i64 r.x1, .int .i64 r.y1] 23)) (.slice (some ⟨w.heap.size, 0, none⟩) 1 1) [r] := by
  refine ⟨_, 1, rfl, Nat.le_refl _, by simp [maxLen], fun _ => ⟨w.heap.size, 0, rfl, by simp, fun j q hj => ?_⟩⟩
  match j, hj with
  | 0, hj =>
    simp only [List.getElem?_cons_zero, Option.some.injEq] at hj
    subst hj
    have h := Four.new w (.int .i64 r.x0) (.int .i64 r.y0) (.int .i64 r.x1) (.int .i64 r.y1) 23
    exact ⟨h.1, h.2.1, h.2.2.1, h.2.2.2.1⟩

theorem rs_four (w : World) (p q r s : R) : Rs (w.alloc (.cells #[.int .i64 p.x0, .int .i64 p.y0, .int .i64 p.x1, .int .i64 p.y1, .int .i64 q.x0, .int .i64 q.y0, .int .i64 q.x1, .int .i64 q.y1, .int .i64 r.x0, .int .i64 r.y0, .int .i64 r.x1, .int .i64 r.y1, .int .i64 s.x0, .int .i64 s.y0, .int .i64 s.x1, .int .i64 s.y1] 23)) (.slice (some ⟨w.heap.size, 0, none⟩) 4 4) [p, q, r, s] := by
  refine ⟨_, 4, rfl, Nat.le_refl _, by simp [maxLen], fun _ => ⟨w.heap.size, 0, rfl, by simp, fun j t hj => ?_⟩⟩
  match j, hj with
  | 0, hj => simp only [List.getElem?_cons_zero, Option.some.injEq] at hj; subst hj; refine ⟨?_, ?_, ?_, ?_⟩ <;> (rw [World.cell?_alloc_at _ _ _ _ rfl]; rfl)
  | 1, hj => simp only [List.getElem?_cons_zero, List.getElem?_cons_succ, Option.some.injEq] at hj; subst hj; refine ⟨?_, ?_, ?_, ?_⟩ <;> (rw [World.cell?_alloc_at _ _ _ _ rfl]; rfl)
  | 2, hj => simp only [List.getElem?_cons_zero, List.getElem?_cons_succ, Option.some.injEq] at hj; subst hj; refine ⟨?_, ?_, ?_, ?_⟩ <;> (rw [World.cell?_alloc_at _ _ _ _ rfl]; rfl)
  | 3, hj => simp only [List.getElem?_cons_zero, List.getElem?_cons_succ, Option.some.injEq] at hj; subst hj; refine ⟨?_, ?_, ?_, ?_⟩ <;> (rw [World.cell?_alloc_at _ _ _ _ rfl]; rfl)
  | j + 4, hj => simp at hj

theorem rs_cells {w : World} {b n c : Nat} {l : List R} (h : Rs w (.slice (some ⟨b, 0, none⟩) n c) l) : n = l.length ∧ ∀ (j : Nat) (r : R), l[j]? = some r → b < w.heap.size ∧ w.cell? ⟨b, j * 4, none⟩ = some (.int .i64 r.x0) ∧ w.cell? ⟨b, j * 4 + 1, none⟩ = some (.int .i64 r.y0) ∧ w.cell? ⟨b, j * 4 + 2, none⟩ = some (.int .i64 r.x1) ∧ w.cell? ⟨b, j * 4 + 3, none⟩ = some (.int .i64 r.y1) := by
  obtain ⟨A, cap, hv, _, _, hc⟩ := h
  injection hv with e1 e2 e3
  refine ⟨e2, fun j r hj => ?_⟩
  obtain ⟨b', off, hA, hlt, hcc⟩ := hc (Nat.lt_of_le_of_lt (Nat.zero_le j) (List.getElem?_eq_some_iff.1 hj).1)
  rw [← e1] at hA
  injection hA with hA
  injection hA with h1 h2
  subst h1 h2
  have := hcc j r hj
  rw [Nat.zero_add] at this
  exact ⟨hlt, this⟩

set_option maxRecDepth 100000 in
set_option maxHeartbeats 4000000 in
theorem rsub_any (a b : R) (w : World) : Calls Try.prog 30 #[.agg #[.int .i64 a.x0, .int .i64 a.y0, .int .i64 a.x1, .int .i64 a.y1], .agg #[.int .i64 b.x0, .int .i64 b.y0, .int .i64 b.x1, .int .i64 b.y1]] w (RSubs a b w) := by
  obtain ⟨i0, hi, hz0, hz1, hz2⟩ := info_parts rect_info
  have H0 := Lib.hid (((Below.refl w.heap.size w).alloc (Nat.le_refl _) (.cells #[.int .i64 a.x0, .int .i64 a.y0, .int .i64 a.x1, .int .i64 a.y1] 23)).alloc (by simp) (.cells #[.int .i64 b.x0, .int .i64 b.y0, .int .i64 b.x1, .int .i64 b.y1] 23))
  have F0 : Four ((w.alloc (.cells #[.int .i64 a.x0, .int .i64 a.y0, .int .i64 a.x1, .int .i64 a.y1] 23)).alloc (.cells #[.int .i64 b.x0, .int .i64 b.y0, .int .i64 b.x1, .int .i64 b.y1] 23)) w.heap.size (.int .i64 a.x0) (.int .i64 a.y0) (.int .i64 a.x1) (.int .i64 a.y1) := (Four.new w _ _ _ _ _).alloc (by simp) _
  have C1 := fun W => Lib.hid (rint_any a b W)
  have C2 := fun W => Lib.hid (rempty_any a W)
  cases h0 : empB a
  · cases h1 : empB (intR a b)
    · have HS : Hid (subR a b = fullR (partsR a b)) := Lib.hid rfl
      have HP : Hid (partsR a b = [⟨a.x0, a.y0, a.x1, (intR a b).y0⟩, ⟨a.x0, (intR a b).y1, a.x1, a.y1⟩, ⟨a.x0, (intR a b).y0, (intR a b).x0, (intR a b).y1⟩, ⟨(intR a b).x1, (intR a b).y0, a.x1, (intR a b).y1⟩]) := Lib.hid (by simp [partsR, h1])
      have C3 := fun W => Lib.hid (rempty_any (intR a b) W)
      rw [h0] at C2
      rw [h1] at C3
      generalize intR a b = c at *
      clear h0 h1
      go_enter Try.func30, Try.ntmps30
      go_wp2_with fail
      refine (C1 _).out.mono ?_
      rintro e w1 ⟨rfl, hb1⟩
      have hz : w.heap.size + 1 < w1.heap.size := by have := hb1.size; simp at this; omega
      have K1 := Lib.hid (H0.out.trans (hb1.mono H0.out.size))
      have G0 := (F0.keep hb1 (by simp; omega)).alloc (by omega) (.cells #[.int .i64 c.x0, .int .i64 c.y0, .int .i64 c.x1, .int .i64 c.y1] 23)
      have GC := Four.new w1 (.int .i64 c.x0) (.int .i64 c.y0) (.int .i64 c.x1) (.int .i64 c.y1) 23
      have B1 := Lib.hid (K1.out.alloc K1.out.size (.cells #[.int .i64 c.x0, .int .i64 c.y0, .int .i64 c.x1, .int .i64 c.y1] 23))
      clear hb1 F0
      have q0 := G0.1
      have q1 := G0.2.1
      have q2 := G0.2.2.1
      have q3 := G0.2.2.2.1
      have HG0 := Lib.hid G0
      have HGC := Lib.hid GC
      clear G0 GC
      have G0t : w.heap.size < w1.heap.size := by omega
      go_wp2_with fail
      refine (C2 _).out.mono ?_
      rintro e w2 ⟨rfl, hb2⟩
      have G2 := Lib.hid (HG0.out.keep hb2 (by simp; omega))
      have GC2 := Lib.hid (HGC.out.keep hb2 (by simp))
      have B2 := Lib.hid (B1.out.trans (hb2.mono B1.out.size))
      have z2 : w1.heap.size < w2.heap.size := by have := hb2.size; simp at this; omega
      clear hb2 q0 q1 q2 q3 HG0 HGC B1
      obtain ⟨p0, p1, p2, p3, _⟩ := id GC2.out
      go_wp2_with fail
      refine (C3 _).out.mono ?_
      rintro e w3 ⟨rfl, hb3⟩
      have G3 := G2.out.keep hb3 (by omega)
      have GC3 := GC2.out.keep hb3 z2
      have B3 := Lib.hid (B2.out.trans (hb3.mono B2.out.size))
      have z3 := Nat.lt_of_lt_of_le z2 hb3.size
      clear hb3 p0 p1 p2 p3 G2 GC2 B2
      obtain ⟨p0, p1, p2, p3, _⟩ := GC3
      obtain ⟨q0, q1, q2, q3, _⟩ := G3
      go_wp2_with fail
      have RA := rs_four w3 ⟨a.x0, a.y0, a.x1, c.y0⟩ ⟨a.x0, c.y1, a.x1, a.y1⟩ ⟨a.x0, c.y0, c.x0, c.y1⟩ ⟨c.x1, c.y0, a.x1, c.y1⟩
      have B4 := B3.out.alloc B3.out.size (.cells #[.int .i64 a.x0, .int .i64 a.y0, .int .i64 a.x1, .int .i64 c.y0, .int .i64 a.x0, .int .i64 c.y1, .int .i64 a.x1, .int .i64 a.y1, .int .i64 a.x0, .int .i64 c.y0, .int .i64 c.x0, .int .i64 c.y1, .int .i64 c.x1, .int .i64 c.y0, .int .i64 a.x1, .int .i64 c.y1] 23)
      rw [← HP.out] at RA
      have PL : (partsR a b).length = 4 := by rw [HP.out]; rfl
      dsimp only at RA
      generalize World.alloc w3 _ = wz at RA B4 ⊢
      generalize w3.heap.size = bb at RA ⊢
      have RC := Lib.hid (rs_cells RA)
      have HB4 := Lib.hid B4
      have HL := Lib.hid PL
      have HPL := PL
      clear RA B4 PL p0 p1 p2 p3 q0 q1 q2 q3 B3 z3 z2 G0t hz K1 C1 C2 C3 H0 HP
      generalize partsR a b = P at *
      go_loopw [7, 8] (fun out k wr => ∃ j : Nat, j ≤ 4 ∧ k = .int .i64 (j : Int) ∧ Hid (wr.ownsRow wz.heap.size 23 4 out (fullR (P.take j)).length (flat (fullR (P.take j))) ∧ Below wz.heap.size wz wr)) (fun _ k _ => 4 - (intOf k).toNat)
      case atStart => exact ⟨0, by omega, rfl, World.ownsRow_nil _ _ _ _, Below.refl _ _⟩
      case round =>
        obtain ⟨j, hj, rfl, hrel⟩ := hrel
        by_cases hlt : j < 4
        · obtain ⟨x, hx⟩ : ∃ x, P[j]? = some x := ⟨_, List.getElem?_eq_getElem (by rw [HL.out]; exact hlt)⟩
          obtain ⟨hbb, hcs⟩ := RC.out.2 j x hx
          obtain ⟨t0, t1, t2, t3⟩ := hcs
          have HBL := hrel.out.2
          rw [← HBL.cell (p := ⟨bb, j * 4, none⟩) hbb] at t0
          rw [← HBL.cell (p := ⟨bb, j * 4 + 1, none⟩) hbb] at t1
          rw [← HBL.cell (p := ⟨bb, j * 4 + 2, none⟩) hbb] at t2
          rw [← HBL.cell (p := ⟨bb, j * 4 + 3, none⟩) hbb] at t3
          have C4 := fun W => Lib.hid (rempty_any x W)
          have HX := Lib.hid (List.take_add_one (l := P) (i := j))
          have q0 : (j : Int) < 4 := by omega
          have HBH := Lib.hid HBL
          have HXH := Lib.hid hx
          clear HBL hx
          cases he : empB x
          · rw [he] at C4
            have HE := Lib.hid he
            clear he
            go_wp2_with fail
            refine (C4 _).out.mono ?_
            rintro e w4 ⟨rfl, hb4⟩
            have hbr : bb < wr.heap.size := Nat.lt_of_lt_of_le hbb HBH.out.size
            rw [← hb4.cell (p := ⟨bb, j * 4, none⟩) hbr] at t0
            rw [← hb4.cell (p := ⟨bb, j * 4 + 1, none⟩) hbr] at t1
            rw [← hb4.cell (p := ⟨bb, j * 4 + 2, none⟩) hbr] at t2
            rw [← hb4.cell (p := ⟨bb, j * 4 + 3, none⟩) hbr] at t3
            have hr4 := hrel.out.1.kept (grown_below hb4) (by cases u7.ownBlock <;> simp)
            have HB5 := Lib.hid (HBH.out.trans (hb4.mono HBH.out.size))
            have hle := fullR_le (P.take j)
            have hlj : (P.take j).length ≤ 4 := by rw [List.length_take, HL.out]; omega
            have hn := World.news_of_block (cs := #[.int .i64 x.x0, .int .i64 x.y0, .int .i64 x.x1, .int .i64 x.y1]) (t := 23) (fr := (0, 0)) (World.alloc_heap_new w4 _)
            have hs4 := HB5.out.size
            have HEX : Hid (fullR (P.take (j + 1)) = fullR (P.take j) ++ [x]) := Lib.hid (by rw [HX.out, HXH.out]; exact full_hit _ HE.out)
            clear hb4 HPL
            go_wp2_with (refine wpList_append_own _ rfl _ _ 32 rfl wz.heap.size 23 i0 _ 4 32 Try.underlying32 hi hz0 hz1 hz2 rfl (by decide) _ _ _ rfl (hr4.alloc _) ⟨w4.heap.size, 0, none⟩ 1 1 (cells4 x) rfl rfl hn (by simp [cells4, Value.oneCell']) (by unfold maxLen; omega) (by omega) (by simp; omega) ?_; intro v' w5 hown' hgrow _)
            go_roundw
            case rel =>
              refine ⟨j + 1, by omega, by go_num, ?_, ?_⟩
              · rw [HEX.out, flat_snoc, List.length_append]; exact hown'
              · exact (HB5.out.alloc HB5.out.size _).grown hgrow (by simp; omega) (fun k hk => (World.ownsRow.lt hr4 k hk).1)
            case measure => simp [intOf]; omega
          · rw [he] at C4
            have HE := Lib.hid he
            clear he
            go_wp2_with fail
            refine (C4 _).out.mono ?_
            rintro e w4 ⟨rfl, hb4⟩
            have hr4 := hrel.out.1.kept (grown_below hb4) (by cases u7.ownBlock <;> simp)
            have HB5 := Lib.hid (HBH.out.trans (hb4.mono HBH.out.size))
            have HEX : Hid (fullR (P.take (j + 1)) = fullR (P.take j)) := Lib.hid (by rw [HX.out, HXH.out]; exact full_miss _ HE.out)
            clear hb4 HPL t0 t1 t2 t3
            go_wp2_with fail
            go_roundw
            case rel =>
              refine ⟨j + 1, by omega, by go_num, ?_, HB5.out⟩
              rw [HEX.out]; exact hr4
            case measure => simp [intOf]; omega
        · have q0 : (4 : Int) ≤ (j : Int) := by omega
          have hout : Hid (RSubs a b w (.returned u7) wr) := by
            refine ⟨u7, rfl, ?_, HB4.out.trans (hrel.out.2.mono HB4.out.size)⟩
            rw [HS.out]
            have h := hrel.out.1
            rw [List.take_of_length_le (by rw [HL.out]; omega)] at h
            exact OwnR.rs h
          clear hrel HPL
          go_wp2_with fail
          go_ret
          exact hout.out
    · have HS := Lib.hid (sub_whole h0 h1)
      have C3 := fun W => Lib.hid (rempty_any (intR a b) W)
      rw [h0] at C2
      rw [h1] at C3
      generalize intR a b = c at *
      clear h0 h1
      go_enter Try.func30, Try.ntmps30
      go_wp2_with fail
      refine (C1 _).out.mono ?_
      rintro e w1 ⟨rfl, hb1⟩
      have hz : w.heap.size + 1 < w1.heap.size := by have := hb1.size; simp at this; omega
      have K1 := Lib.hid (H0.out.trans (hb1.mono H0.out.size))
      have G0 := (F0.keep hb1 (by simp; omega)).alloc (by omega) (.cells #[.int .i64 c.x0, .int .i64 c.y0, .int .i64 c.x1, .int .i64 c.y1] 23)
      have GC := Four.new w1 (.int .i64 c.x0) (.int .i64 c.y0) (.int .i64 c.x1) (.int .i64 c.y1) 23
      have B1 := Lib.hid (K1.out.alloc K1.out.size (.cells #[.int .i64 c.x0, .int .i64 c.y0, .int .i64 c.x1, .int .i64 c.y1] 23))
      clear hb1 F0
      have q0 := G0.1
      have q1 := G0.2.1
      have q2 := G0.2.2.1
      have q3 := G0.2.2.2.1
      have HG0 := Lib.hid G0
      have HGC := Lib.hid GC
      clear G0 GC
      go_wp2_with fail
      refine (C2 _).out.mono ?_
      rintro e w2 ⟨rfl, hb2⟩
      have G2 := Lib.hid (HG0.out.keep hb2 (by simp; omega))
      have GC2 := Lib.hid (HGC.out.keep hb2 (by simp))
      have B2 := Lib.hid (B1.out.trans (hb2.mono B1.out.size))
      have z2 : w1.heap.size < w2.heap.size := by have := hb2.size; simp at this; omega
      clear hb2 q0 q1 q2 q3 HG0 HGC B1
      obtain ⟨p0, p1, p2, p3, _⟩ := id GC2.out
      go_wp2_with fail
      refine (C3 _).out.mono ?_
      rintro e w3 ⟨rfl, hb3⟩
      have G3 := G2.out.keep hb3 (by omega)
      have B3 := Lib.hid (B2.out.trans (hb3.mono B2.out.size))
      clear hb3 p0 p1 p2 p3 G2 GC2 B2
      obtain ⟨q0, q1, q2, q3, _⟩ := G3
      go_wp2_with fail
      go_ret
      exact ⟨_, rfl, by rw [HS.out]; exact rs_one w3 a, B3.out.alloc B3.out.size _⟩
  · have HS := Lib.hid (sub_none (b := b) h0)
    rw [h0] at C2
    generalize intR a b = c at *
    clear h0
    go_enter Try.func30, Try.ntmps30
    go_wp2_with fail
    refine (C1 _).out.mono ?_
    rintro e w1 ⟨rfl, hb1⟩
    have hz : w.heap.size + 1 < w1.heap.size := by have := hb1.size; simp at this; omega
    have K1 := Lib.hid (H0.out.trans (hb1.mono H0.out.size))
    have G0 := (F0.keep hb1 (by simp; omega)).alloc (by omega) (.cells #[.int .i64 c.x0, .int .i64 c.y0, .int .i64 c.x1, .int .i64 c.y1] 23)
    have B1 := Lib.hid (K1.out.alloc K1.out.size (.cells #[.int .i64 c.x0, .int .i64 c.y0, .int .i64 c.x1, .int .i64 c.y1] 23))
    clear hb1 F0
    obtain ⟨q0, q1, q2, q3, _⟩ := G0
    go_wp2_with fail
    refine (C2 _).out.mono ?_
    rintro e w2 ⟨rfl, hb2⟩
    have B2 := Lib.hid (B1.out.trans (hb2.mono B1.out.size))
    clear hb2 q0 q1 q2 q3
    go_wp2_with fail
    go_ret
    exact ⟨_, rfl, by rw [HS.out]; exact rs_nil w2, B2.out⟩

end Go.Proofs.Ytalklenngalfjaa
