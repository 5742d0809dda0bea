/-
  RectShifts: a rectangle that was translated within the limits is restored by translating back, and translating keeps areas and intersections: the law returns true and leaves its arguments as they were. No condition.
-/
import Derived.Test.YtalklenngalfjaaHold
import Derived.Test.YtalklenngalfjaaUni
import Derived.Test.YtalklenngalfjaaInt
import Derived.Test.YtalklenngalfjaaInv
import Derived.IntWalk
namespace Go.Proofs.Ytalklenngalfjaa
open Go.ChangeShapes Go.WideShapes Go.ChangeAt Go.RowKit

def shR (r : R) (dx dy : Int) : R := ⟨r.x0 + dx, r.y0 + dy, r.x1 + dx, r.y1 + dy⟩

theorem mov_in {n d : Int} (h : -16384 ≤ n + d ∧ n + d ≤ 16384) : movI n d = n + d := by
  unfold movI nearI
  omega

theorem tr_in {r : R} {dx dy : Int} (h : empB r = false) (hv : vldB (shR r dx dy) = true) : trR r dx dy = shR r dx dy ∧ empB (shR r dx dy) = false := by
  have h0 := (emp_no r).1 h
  have h1 := (vld_iff _).1 hv
  simp only [shR] at h1
  have h2 : empB (shR r dx dy) = false := by
    rw [emp_no]
    simp only [shR]
    omega
  refine ⟨?_, h2⟩
  unfold trR
  rw [h, mov_in h1.1, mov_in h1.2.1, mov_in h1.2.2.1, mov_in h1.2.2.2]
  simp only [Bool.false_eq_true, if_false]
  exact can_full h2

theorem sh_back (r : R) (dx dy : Int) : shR (shR r dx dy) (-dx) (-dy) = r := by
  refine R.same ?_ ?_ ?_ ?_ <;> (simp only [shR]; omega)

theorem sh_area {r : R} {dx dy : Int} (h : empB r = false) (h2 : empB (shR r dx dy) = false) : areaI (shR r dx dy) = areaI r := by
  unfold areaI
  rw [can_full h, can_full h2]
  simp only [shR]
  rw [show r.x1 + dx - (r.x0 + dx) = r.x1 - r.x0 by omega, show r.y1 + dy - (r.y0 + dy) = r.y1 - r.y0 by omega]

theorem sh_int {a b : R} {dx dy : Int} (ha : empB a = false) (hb : empB b = false) (hva : vldB (shR a dx dy) = true) (hvb : vldB (shR b dx dy) = true) (ha2 : empB (shR a dx dy) = false) (hb2 : empB (shR b dx dy) = false) :
    intR (shR a dx dy) (shR b dx dy) = trR (intR a b) dx dy := by
  rw [int_full ha hb, int_full ha2 hb2]
  have e : cutR (shR a dx dy) (shR b dx dy) = shR (cutR a b) dx dy := by
    refine R.same ?_ ?_ ?_ ?_ <;> (simp only [cutR, shR]; omega)
  rw [e]
  have h1 := (vld_iff _).1 hva
  have h2 := (vld_iff _).1 hvb
  have g1 := (emp_no a).1 ha
  have g2 := (emp_no b).1 hb
  simp only [shR] at h1 h2
  cases hc : empB (cutR a b)
  · rw [can_full hc]
    have hv : vldB (shR (cutR a b) dx dy) = true := by
      rw [vld_iff]
      simp only [shR, cutR]
      omega
    obtain ⟨e1, e2⟩ := tr_in hc hv
    rw [e1, can_full e2]
  · rw [can_emp hc]
    have e1 : trR zeroR dx dy = zeroR := by simp [trR, emp_zero]
    rw [e1]
    have hn := (emp_yes _).1 hc
    refine can_emp ((emp_yes _).2 ?_)
    simp only [cutR] at hn
    simp only [shR, cutR]
    omega

theorem hull_bd {a b : R} (ha : empB a = false) (hb : empB b = false) : (-16384 ≤ (uniR a b).x0 ∧ (uniR a b).x0 ≤ 16384) ∧ (-16384 ≤ (uniR a b).y0 ∧ (uniR a b).y0 ≤ 16384) ∧ (-16384 ≤ (uniR a b).x1 ∧ (uniR a b).x1 ≤ 16384) ∧ (-16384 ≤ (uniR a b).y1 ∧ (uniR a b).y1 ≤ 16384) := by
  have h0 := (emp_no a).1 ha
  have h1 := (emp_no b).1 hb
  rw [uni_full ha hb]
  simp only [hullR]
  omega

theorem hull_vld {a b : R} {dx dy : Int} (ha : empB a = false) (hb : empB b = false) (h : vldB (shR (uniR a b) dx dy) = true) : vldB (shR a dx dy) = true ∧ vldB (shR b dx dy) = true := by
  have h0 := (emp_no a).1 ha
  have h1 := (emp_no b).1 hb
  rw [uni_full ha hb] at h
  have h2 := (vld_iff _).1 h
  simp only [shR, hullR] at h2
  rw [vld_iff, vld_iff]
  simp only [shR]
  omega

set_option maxRecDepth 100000 in
set_option maxHeartbeats 16000000 in
theorem shifts_walk (a b : R) (x y : Int) (w : World) : Calls Try.prog 9 #[.agg #[.int .i64 a.x0, .int .i64 a.y0, .int .i64 a.x1, .int .i64 a.y1], .agg #[.int .i64 b.x0, .int .i64 b.y0, .int .i64 b.x1, .int .i64 b.y1], .agg #[.int .i64 x, .int .i64 y]] w (Says true w) := by
  have HH := Lib.hid ((((HeldL.new w).rect a rfl).rect b (k := w.heap.size + 1) (by simp)).point x y (k := w.heap.size + 1 + 1) (by simp))
  simp only [rectC, pointC, List.nil_append, List.cons_append] at HH
  have C1 := fun W => Lib.hid (empty_any a W)
  cases h0 : empB a
  · rw [h0] at C1
    have C2 := fun W => Lib.hid (empty_any b W)
    cases h1 : empB b
    · rw [h1] at C2
      by_cases g0 : x < -32768
      · clear h0 h1
        go_enter Try.func9, Try.ntmps9
        go_wp2_with fail
        obtain ⟨a0, a1, a2, a3, b0, b1, b2, b3, p0, p1⟩ := id HH.out.cells
        change World.cell? _ _ = _ at p1
        go_quiet (fail)
        replace HH := Lib.hid (HH.out.drewN nq)
        clear a0 a1 a2 a3 b0 b1 b2 b3 p0 p1
        obtain ⟨a0, a1, a2, a3, b0, b1, b2, b3, p0, p1⟩ := id HH.out.cells
        change World.cell? _ _ = _ at p1
        go_wp2_with fail
        refine ((C1 _).out).mono ?_
        rintro e wq ⟨rfl, hbq⟩
        replace HH := Lib.hid (HH.out.step hbq)
        clear hbq
        clear a0 a1 a2 a3 b0 b1 b2 b3 p0 p1
        obtain ⟨a0, a1, a2, a3, b0, b1, b2, b3, p0, p1⟩ := id HH.out.cells
        change World.cell? _ _ = _ at p1
        go_wp2_with fail
        refine ((C2 _).out).mono ?_
        rintro e wq ⟨rfl, hbq⟩
        replace HH := Lib.hid (HH.out.step hbq)
        clear hbq
        clear a0 a1 a2 a3 b0 b1 b2 b3 p0 p1
        obtain ⟨a0, a1, a2, a3, b0, b1, b2, b3, p0, p1⟩ := id HH.out.cells
        change World.cell? _ _ = _ at p1
        go_wp2_with fail
        refine (example_any _).mono ?_
        rintro e wq ⟨rfl, hbq⟩
        replace HH := Lib.hid (HH.out.step hbq)
        clear hbq
        go_wp2_with fail
        go_ret
        exact ⟨rfl, HH.out.below⟩
      · by_cases g1 : 32768 < x
        · clear h0 h1
          go_enter Try.func9, Try.ntmps9
          go_wp2_with fail
          obtain ⟨a0, a1, a2, a3, b0, b1, b2, b3, p0, p1⟩ := id HH.out.cells
          change World.cell? _ _ = _ at p1
          go_quiet (fail)
          replace HH := Lib.hid (HH.out.drewN nq)
          clear a0 a1 a2 a3 b0 b1 b2 b3 p0 p1
          obtain ⟨a0, a1, a2, a3, b0, b1, b2, b3, p0, p1⟩ := id HH.out.cells
          change World.cell? _ _ = _ at p1
          go_wp2_with fail
          refine ((C1 _).out).mono ?_
          rintro e wq ⟨rfl, hbq⟩
          replace HH := Lib.hid (HH.out.step hbq)
          clear hbq
          clear a0 a1 a2 a3 b0 b1 b2 b3 p0 p1
          obtain ⟨a0, a1, a2, a3, b0, b1, b2, b3, p0, p1⟩ := id HH.out.cells
          change World.cell? _ _ = _ at p1
          go_wp2_with fail
          refine ((C2 _).out).mono ?_
          rintro e wq ⟨rfl, hbq⟩
          replace HH := Lib.hid (HH.out.step hbq)
          clear hbq
          clear a0 a1 a2 a3 b0 b1 b2 b3 p0 p1
          obtain ⟨a0, a1, a2, a3, b0, b1, b2, b3, p0, p1⟩ := id HH.out.cells
          change World.cell? _ _ = _ at p1
          go_wp2_with fail
          refine (example_any _).mono ?_
          rintro e wq ⟨rfl, hbq⟩
          replace HH := Lib.hid (HH.out.step hbq)
          clear hbq
          go_wp2_with fail
          go_ret
          exact ⟨rfl, HH.out.below⟩
        · by_cases g2 : y < -32768
          · clear h0 h1
            go_enter Try.func9, Try.ntmps9
            go_wp2_with fail
            obtain ⟨a0, a1, a2, a3, b0, b1, b2, b3, p0, p1⟩ := id HH.out.cells
            change World.cell? _ _ = _ at p1
            go_quiet (fail)
            replace HH := Lib.hid (HH.out.drewN nq)
            clear a0 a1 a2 a3 b0 b1 b2 b3 p0 p1
            obtain ⟨a0, a1, a2, a3, b0, b1, b2, b3, p0, p1⟩ := id HH.out.cells
            change World.cell? _ _ = _ at p1
            go_wp2_with fail
            refine ((C1 _).out).mono ?_
            rintro e wq ⟨rfl, hbq⟩
            replace HH := Lib.hid (HH.out.step hbq)
            clear hbq
            clear a0 a1 a2 a3 b0 b1 b2 b3 p0 p1
            obtain ⟨a0, a1, a2, a3, b0, b1, b2, b3, p0, p1⟩ := id HH.out.cells
            change World.cell? _ _ = _ at p1
            go_wp2_with fail
            refine ((C2 _).out).mono ?_
            rintro e wq ⟨rfl, hbq⟩
            replace HH := Lib.hid (HH.out.step hbq)
            clear hbq
            clear a0 a1 a2 a3 b0 b1 b2 b3 p0 p1
            obtain ⟨a0, a1, a2, a3, b0, b1, b2, b3, p0, p1⟩ := id HH.out.cells
            change World.cell? _ _ = _ at p1
            go_wp2_with fail
            refine (example_any _).mono ?_
            rintro e wq ⟨rfl, hbq⟩
            replace HH := Lib.hid (HH.out.step hbq)
            clear hbq
            go_wp2_with fail
            go_ret
            exact ⟨rfl, HH.out.below⟩
          · by_cases g3 : 32768 < y
            · clear h0 h1
              go_enter Try.func9, Try.ntmps9
              go_wp2_with fail
              obtain ⟨a0, a1, a2, a3, b0, b1, b2, b3, p0, p1⟩ := id HH.out.cells
              change World.cell? _ _ = _ at p1
              go_quiet (fail)
              replace HH := Lib.hid (HH.out.drewN nq)
              clear a0 a1 a2 a3 b0 b1 b2 b3 p0 p1
              obtain ⟨a0, a1, a2, a3, b0, b1, b2, b3, p0, p1⟩ := id HH.out.cells
              change World.cell? _ _ = _ at p1
              go_wp2_with fail
              refine ((C1 _).out).mono ?_
              rintro e wq ⟨rfl, hbq⟩
              replace HH := Lib.hid (HH.out.step hbq)
              clear hbq
              clear a0 a1 a2 a3 b0 b1 b2 b3 p0 p1
              obtain ⟨a0, a1, a2, a3, b0, b1, b2, b3, p0, p1⟩ := id HH.out.cells
              change World.cell? _ _ = _ at p1
              go_wp2_with fail
              refine ((C2 _).out).mono ?_
              rintro e wq ⟨rfl, hbq⟩
              replace HH := Lib.hid (HH.out.step hbq)
              clear hbq
              clear a0 a1 a2 a3 b0 b1 b2 b3 p0 p1
              obtain ⟨a0, a1, a2, a3, b0, b1, b2, b3, p0, p1⟩ := id HH.out.cells
              change World.cell? _ _ = _ at p1
              go_wp2_with fail
              refine (example_any _).mono ?_
              rintro e wq ⟨rfl, hbq⟩
              replace HH := Lib.hid (HH.out.step hbq)
              clear hbq
              go_wp2_with fail
              go_ret
              exact ⟨rfl, HH.out.below⟩
            · obtain ⟨⟨u0, u1⟩, ⟨u2, u3⟩, ⟨u4, u5⟩, u6, u7⟩ := hull_bd h0 h1
              have C3 := fun W => Lib.hid (uni_any a b W)
              have C5 := fun W => Lib.hid (valid_any (shR (uniR a b) x y) W)
              cases hv : vldB (shR (uniR a b) x y)
              · rw [hv] at C5
                simp only [shR] at C5
                generalize uniR a b = u at *
                clear h0 h1 hv
                go_enter Try.func9, Try.ntmps9
                go_wp2_with fail
                obtain ⟨a0, a1, a2, a3, b0, b1, b2, b3, p0, p1⟩ := id HH.out.cells
                change World.cell? _ _ = _ at p1
                go_quiet (fail)
                replace HH := Lib.hid (HH.out.drewN nq)
                clear a0 a1 a2 a3 b0 b1 b2 b3 p0 p1
                obtain ⟨a0, a1, a2, a3, b0, b1, b2, b3, p0, p1⟩ := id HH.out.cells
                change World.cell? _ _ = _ at p1
                go_wp2_with fail
                refine ((C1 _).out).mono ?_
                rintro e wq ⟨rfl, hbq⟩
                replace HH := Lib.hid (HH.out.step hbq)
                clear hbq
                clear a0 a1 a2 a3 b0 b1 b2 b3 p0 p1
                obtain ⟨a0, a1, a2, a3, b0, b1, b2, b3, p0, p1⟩ := id HH.out.cells
                change World.cell? _ _ = _ at p1
                go_wp2_with fail
                refine ((C2 _).out).mono ?_
                rintro e wq ⟨rfl, hbq⟩
                replace HH := Lib.hid (HH.out.step hbq)
                clear hbq
                clear a0 a1 a2 a3 b0 b1 b2 b3 p0 p1
                obtain ⟨a0, a1, a2, a3, b0, b1, b2, b3, p0, p1⟩ := id HH.out.cells
                change World.cell? _ _ = _ at p1
                go_wp2_with fail
                refine ((C3 _).out).mono ?_
                rintro e wq ⟨rfl, hbq⟩
                replace HH := Lib.hid (HH.out.step hbq)
                clear hbq
                have hz := HH.out.below.size
                replace HH := Lib.hid (HH.out.rect u rfl)
                simp only [rectC, List.nil_append, List.cons_append] at HH
                clear a0 a1 a2 a3 b0 b1 b2 b3 p0 p1
                go_wp2_with fail
                refine (box_any _ _ _ _ _).mono ?_
                rintro e wq ⟨rfl, hbq⟩
                replace HH := Lib.hid (HH.out.step hbq)
                clear hbq
                go_wp2_with fail
                refine ((C5 _).out).mono ?_
                rintro e wq ⟨rfl, hbq⟩
                replace HH := Lib.hid (HH.out.step hbq)
                clear hbq
                go_wp2_with fail
                refine (example_any _).mono ?_
                rintro e wq ⟨rfl, hbq⟩
                replace HH := Lib.hid (HH.out.step hbq)
                clear hbq
                go_wp2_with fail
                go_ret
                exact ⟨rfl, HH.out.below⟩
              · rw [hv] at C5
                simp only [shR] at C5
                obtain ⟨ha, hb⟩ := hull_vld h0 h1 hv
                obtain ⟨ea, na⟩ := tr_in h0 ha
                obtain ⟨eb, nb⟩ := tr_in h1 hb
                have hback : vldB (shR (shR a x y) (-x) (-y)) = true := by
                  rw [sh_back]
                  have := (emp_no a).1 h0
                  rw [vld_iff]
                  omega
                have er := (tr_in na hback).1
                rw [sh_back] at er
                have ear := sh_area h0 na
                have ein := sh_int h0 h1 ha hb na nb
                have T1 := fun W => Lib.hid (trans_any a x y W)
                have T2 := fun W => Lib.hid (trans_any b x y W)
                have T3 := fun W => Lib.hid (trans_any (shR a x y) (-x) (-y) W)
                have T4 := fun W => Lib.hid (trans_any (intR a b) x y W)
                have A1 := fun W => Lib.hid (area_any a W)
                have A2 := fun W => Lib.hid (area_any (shR a x y) W)
                have I1 := fun W => Lib.hid (int_any a b W)
                have I2 := fun W => Lib.hid (int_any (shR a x y) (shR b x y) W)
                rw [ea] at T1
                rw [eb] at T2
                rw [er] at T3
                rw [ear] at A2
                rw [ein] at I2
                generalize trR (intR a b) x y = c at *
                generalize intR a b = i at *
                generalize shR a x y = m at *
                generalize shR b x y = n at *
                generalize areaI a = ar at *
                generalize uniR a b = u at *
                clear h0 h1 hv ha hb ea na eb nb hback er ear ein
                go_enter Try.func9, Try.ntmps9
                go_wp2_with fail
                obtain ⟨a0, a1, a2, a3, b0, b1, b2, b3, p0, p1⟩ := id HH.out.cells
                change World.cell? _ _ = _ at p1
                go_quiet (fail)
                replace HH := Lib.hid (HH.out.drewN nq)
                clear a0 a1 a2 a3 b0 b1 b2 b3 p0 p1
                obtain ⟨a0, a1, a2, a3, b0, b1, b2, b3, p0, p1⟩ := id HH.out.cells
                change World.cell? _ _ = _ at p1
                go_wp2_with fail
                refine ((C1 _).out).mono ?_
                rintro e wq ⟨rfl, hbq⟩
                replace HH := Lib.hid (HH.out.step hbq)
                clear hbq
                clear a0 a1 a2 a3 b0 b1 b2 b3 p0 p1
                obtain ⟨a0, a1, a2, a3, b0, b1, b2, b3, p0, p1⟩ := id HH.out.cells
                change World.cell? _ _ = _ at p1
                go_wp2_with fail
                refine ((C2 _).out).mono ?_
                rintro e wq ⟨rfl, hbq⟩
                replace HH := Lib.hid (HH.out.step hbq)
                clear hbq
                clear a0 a1 a2 a3 b0 b1 b2 b3 p0 p1
                obtain ⟨a0, a1, a2, a3, b0, b1, b2, b3, p0, p1⟩ := id HH.out.cells
                change World.cell? _ _ = _ at p1
                go_wp2_with fail
                refine ((C3 _).out).mono ?_
                rintro e wq ⟨rfl, hbq⟩
                replace HH := Lib.hid (HH.out.step hbq)
                clear hbq
                replace HH := Lib.hid (HH.out.rect u rfl)
                simp only [rectC, List.nil_append, List.cons_append] at HH
                clear a0 a1 a2 a3 b0 b1 b2 b3 p0 p1
                go_upto_region 5 with fail
                go_cut [60] (fun s60 wx => s60 = .bool false ∧ Hid (HeldL w wx (rectC w.heap.size a ++ rectC (w.heap.size + 1) b)))
                case first =>
                  go_wp2_with fail
                  refine (box_any _ _ _ _ _).mono ?_
                  rintro e wq ⟨rfl, hbq⟩
                  replace HH := Lib.hid (HH.out.step hbq)
                  clear hbq
                  go_wp2_with fail
                  refine ((C5 _).out).mono ?_
                  rintro e wq ⟨rfl, hbq⟩
                  replace HH := Lib.hid (HH.out.step hbq)
                  clear hbq
                  go_wp2_with fail
                  go_meet
                  exact ⟨rfl, HH.out.of (by simp [rectC])⟩
                case rest =>
                  obtain ⟨rfl, HK⟩ := hcut
                  go_wp2_with fail
                  go_upto_region 7 with fail
                  go_cut [10, 11] (fun s10 s11 wx => ∃ M Nn : Nat, s10 = .pointer (some ⟨M, 0, none⟩) ∧ s11 = .pointer (some ⟨Nn, 0, none⟩) ∧ Hid (HeldL w wx (rectC w.heap.size a ++ rectC (w.heap.size + 1) b ++ rectC M m ++ rectC Nn n)))
                  case first =>
                    have HK0 := HK.out.drew
                    have low : ∀ p ∈ rectC w.heap.size a ++ rectC (w.heap.size + 1) b, p.1.block < wc.heap.size := fun p hp => (HK.out.there p hp).1
                    have lw := HK.out.below.size
                    have sk := (HK0.of (m := rectC w.heap.size a ++ rectC (w.heap.size + 1) b) (fun p hp => hp)).cells; simp only [rectC, List.nil_append, List.cons_append, Cells] at sk; have hlt := World.block_lt_of_cell? _ _ sk.2.2.2.2.1
                    refine wp_region_held_drew (S := (fun W => (W.cell? ⟨w.heap.size, 0, none⟩ = some (.int .i64 a.x0) ∧ W.cell? ⟨w.heap.size, 1, none⟩ = some (.int .i64 a.y0) ∧ W.cell? ⟨w.heap.size, 2, none⟩ = some (.int .i64 a.x1) ∧ W.cell? ⟨w.heap.size, 3, none⟩ = some (.int .i64 a.y1) ∧ W.cell? ⟨w.heap.size + 1, 0, none⟩ = some (.int .i64 b.x0) ∧ W.cell? ⟨w.heap.size + 1, 1, none⟩ = some (.int .i64 b.y0) ∧ W.cell? ⟨w.heap.size + 1, 2, none⟩ = some (.int .i64 b.x1) ∧ W.cell? ⟨w.heap.size + 1, 3, none⟩ = some (.int .i64 b.y1)) ∧ w.heap.size + 1 < W.heap.size)) (by kernel_rfl) ⟨sk, hlt⟩ (fun hHeld => ?_)
                    refine wpAnyH_take (i := 0) (oi := _) (v := ?_) rfl (by kernel_rfl) (by kernel_rfl) (by kernel_rfl) (fun _ _ _ h => h) (Or.inl ⟨by rfl, ?_⟩) hHeld ?_
                    rotate_left 1
                    · (intro W hSw; (try dsimp only at hSw); go_simp; try with_reducible rfl)
                    try simp only [Act.put, List.setIfInBounds_toArray, List.set_cons_succ]
                    refine wpAnyH_take (i := 1) (oi := _) (v := ?_) rfl (by kernel_rfl) (by kernel_rfl) (by kernel_rfl) (fun _ _ _ h => h) (Or.inl ⟨by rfl, ?_⟩) hHeld ?_
                    rotate_left 1
                    · (intro W hSw; (try dsimp only at hSw); go_simp; try with_reducible rfl)
                    try simp only [Act.put, List.setIfInBounds_toArray, List.set_cons_succ]
                    refine wpAnyH_take (i := 2) (oi := _) (v := ?_) rfl (by kernel_rfl) (by kernel_rfl) (by kernel_rfl) (fun _ _ _ h => h) (Or.inl ⟨by rfl, ?_⟩) hHeld ?_
                    rotate_left 1
                    · (intro W hSw; (try dsimp only at hSw); go_simp; try with_reducible rfl)
                    try simp only [Act.put, List.setIfInBounds_toArray, List.set_cons_succ]
                    refine wpAnyH_take (i := 4) (oi := _) (v := ?_) rfl (by kernel_rfl) (by kernel_rfl) (by kernel_rfl) (fun _ _ _ h => h) (Or.inl ⟨by rfl, ?_⟩) hHeld ?_
                    rotate_left 1
                    · (intro W hSw; (try dsimp only at hSw); go_simp; try with_reducible rfl)
                    try simp only [Act.put, List.setIfInBounds_toArray, List.set_cons_succ]
                    refine wpAnyH_take (i := 5) (oi := _) (v := ?_) rfl (by kernel_rfl) (by kernel_rfl) (by kernel_rfl) (fun _ _ _ h => h) (Or.inl ⟨by rfl, ?_⟩) hHeld ?_
                    rotate_left 1
                    · (intro W hSw; (try dsimp only at hSw); go_simp; try with_reducible rfl)
                    try simp only [Act.put, List.setIfInBounds_toArray, List.set_cons_succ]
                    refine wpAnyH_take (i := 6) (oi := _) (v := ?_) rfl (by kernel_rfl) (by kernel_rfl) (by kernel_rfl) (fun _ _ _ h => h) (Or.inl ⟨by rfl, ?_⟩) hHeld ?_
                    rotate_left 1
                    · (intro W hSw; (try dsimp only at hSw); go_simp; try with_reducible rfl)
                    try simp only [Act.put, List.setIfInBounds_toArray, List.set_cons_succ]
                    have hT1 := T1
                    have hT2 := T2
                    refine inv_from (L := fun f3 f7 f8 f9 f10 f11 => #[true, true, true, f3, true, true, true, f7, f8, f9, f10, f11]) (St := fun a0 f3 f7 f8 f9 f10 f11 ac W => ∃ M Nn : Nat, ac = { a0 with tmps := (((a0.tmps.setIfInBounds 65 (if f3 = true then (.agg #[.int .i64 m.x0, .int .i64 m.y0, .int .i64 m.x1, .int .i64 m.y1]) else a0.tmps.getD 65 undef)).setIfInBounds 69 (if f7 = true then (.agg #[.int .i64 n.x0, .int .i64 n.y0, .int .i64 n.x1, .int .i64 n.y1]) else a0.tmps.getD 69 undef)).setIfInBounds 10 (if f8 = true then .pointer (some ⟨M, 0, none⟩) else a0.tmps.getD 10 undef)).setIfInBounds 11 (if f9 = true then .pointer (some ⟨Nn, 0, none⟩) else a0.tmps.getD 11 undef) } ∧ Hid (Pair2 w wc.heap.size (rectC w.heap.size a ++ rectC (w.heap.size + 1) b) f8 f9 f10 f11 M Nn m n W)) ?rdy ?op3 ?op7 ?op8 ?op9 ?op10 ?op11 ?fin ?at0
                    case rdy => intro f3 f7 f8 f9 f10 f11; cases f3 <;> cases f7 <;> cases f8 <;> cases f9 <;> cases f10 <;> cases f11 <;> kernel_rfl
                    case at0 => exact ⟨⟨wc.heap.size, wc.heap.size + 1, by kernel_rfl, Lib.hid (Pair2.mk lw HK0 low (Nat.le_refl _) (Nat.le_refl _) (Nat.le_succ _) (by omega) (fun e => by cases e) (fun e => by cases e))⟩, by rfl, by decide, fun _ _ _ _ _ _ => ⟨rfl, rfl, rfl, rfl, rfl, rfl⟩⟩
                    case op3 =>
                      rintro f8 f9 a W ⟨M, Nn, rfl, hp⟩
                      refine wpOp_step (o := _) rfl (fun K hK => ?_)
                      have hK2 := Lib.hid hK
                      clear hK
                      go_simp
                      refine (hT1 _).out.mono ?_
                      rintro e wx ⟨rfl, hbq⟩
                      have hq := hp.out.step hbq
                      have sk := (hq.held.of (m := rectC w.heap.size a ++ rectC (w.heap.size + 1) b) (fun p hp => hp)).cells; simp only [rectC, List.nil_append, List.cons_append, Cells] at sk; have hlt2 := World.block_lt_of_cell? _ _ sk.2.2.2.2.1
                      exact hK2.out _ _ ⟨⟨sk, hlt2⟩, M, Nn, by kernel_rfl, Lib.hid hq⟩
                    case op7 =>
                      rintro f8 f9 a W ⟨M, Nn, rfl, hp⟩
                      refine wpOp_step (o := _) rfl (fun K hK => ?_)
                      have hK2 := Lib.hid hK
                      clear hK
                      go_simp
                      refine (hT2 _).out.mono ?_
                      rintro e wx ⟨rfl, hbq⟩
                      have hq := hp.out.step hbq
                      have sk := (hq.held.of (m := rectC w.heap.size a ++ rectC (w.heap.size + 1) b) (fun p hp => hp)).cells; simp only [rectC, List.nil_append, List.cons_append, Cells] at sk; have hlt2 := World.block_lt_of_cell? _ _ sk.2.2.2.2.1
                      exact hK2.out _ _ ⟨⟨sk, hlt2⟩, M, Nn, by kernel_rfl, Lib.hid hq⟩
                    case op8 =>
                      rintro f3 f7 f9 a W ⟨M, Nn, rfl, hp⟩
                      obtain ⟨N2, hN2, hq⟩ := hp.out.newM (fun e => by have := hp.out.atN e; simp only [Bool.false_eq_true, if_false] at this; exact this.in_)
                      have sk := (hq.held.of (m := rectC w.heap.size a ++ rectC (w.heap.size + 1) b) (fun p hp => hp)).cells; simp only [rectC, List.nil_append, List.cons_append, Cells] at sk; have hlt2 := World.block_lt_of_cell? _ _ sk.2.2.2.2.1
                      refine wpOp_step (o := _) rfl (fun K hK => ?_)
                      have hK2 := Lib.hid hK
                      clear hK
                      go_simp
                      refine hK2.out _ _ ⟨⟨sk, hlt2⟩, _, N2, ?_, Lib.hid hq⟩
                      cases f9
                      · kernel_rfl
                      · rw [hN2 rfl]; kernel_rfl
                    case op9 =>
                      rintro f3 f7 f8 a W ⟨M, Nn, rfl, hp⟩
                      obtain ⟨M2, hM2, hq⟩ := hp.out.newN (fun e => by have := hp.out.atM e; simp only [Bool.false_eq_true, if_false] at this; exact this.in_)
                      have sk := (hq.held.of (m := rectC w.heap.size a ++ rectC (w.heap.size + 1) b) (fun p hp => hp)).cells; simp only [rectC, List.nil_append, List.cons_append, Cells] at sk; have hlt2 := World.block_lt_of_cell? _ _ sk.2.2.2.2.1
                      refine wpOp_step (o := _) rfl (fun K hK => ?_)
                      have hK2 := Lib.hid hK
                      clear hK
                      go_simp
                      refine hK2.out _ _ ⟨⟨sk, hlt2⟩, M2, _, ?_, Lib.hid hq⟩
                      cases f8
                      · kernel_rfl
                      · rw [hM2 rfl]; kernel_rfl
                    case op10 =>
                      rintro a W ⟨M, Nn, rfl, hp⟩
                      have hM := hp.out.atM rfl
                      simp only [Bool.false_eq_true, if_false] at hM
                      have hq := hp.out.setM
                      have sk := (hq.held.of (m := rectC w.heap.size a ++ rectC (w.heap.size + 1) b) (fun p hp => hp)).cells; simp only [rectC, List.nil_append, List.cons_append, Cells] at sk; have hlt2 := World.block_lt_of_cell? _ _ sk.2.2.2.2.1
                      obtain ⟨m0, m1, m2, m3, m4⟩ := hM
                      refine wpOp_step (o := _) rfl (fun K hK => ?_)
                      have hK2 := Lib.hid hK
                      clear hK
                      go_simp
                      exact hK2.out _ _ ⟨⟨sk, hlt2⟩, M, Nn, by kernel_rfl, Lib.hid hq⟩
                    case op11 =>
                      rintro a W ⟨M, Nn, rfl, hp⟩
                      have hN := hp.out.atN rfl
                      simp only [Bool.false_eq_true, if_false] at hN
                      have hq := hp.out.setN
                      have sk := (hq.held.of (m := rectC w.heap.size a ++ rectC (w.heap.size + 1) b) (fun p hp => hp)).cells; simp only [rectC, List.nil_append, List.cons_append, Cells] at sk; have hlt2 := World.block_lt_of_cell? _ _ sk.2.2.2.2.1
                      obtain ⟨m0, m1, m2, m3, m4⟩ := hN
                      refine wpOp_step (o := _) rfl (fun K hK => ?_)
                      have hK2 := Lib.hid hK
                      clear hK
                      go_simp
                      exact hK2.out _ _ ⟨⟨sk, hlt2⟩, M, Nn, by kernel_rfl, Lib.hid hq⟩
                    case fin =>
                      rintro a W ⟨M, Nn, rfl, hp⟩
                      have hq := hp.out.fin
                      go_wp2_with fail
                      go_meet
                      exact ⟨M, Nn, rfl, rfl, hq⟩
                  case rest =>
                    obtain ⟨M, Nn, rfl, rfl, HL⟩ := hcut
                    have nx : IntKind.i64.wrap (-x) = -x := IntWalk.i64_in _ (by omega)
                    have ny : IntKind.i64.wrap (-y) = -y := IntWalk.i64_in _ (by omega)
                    go_wp2_with fail
                    replace HL := Lib.hid HL.out.drew
                    have sk := HL.out.cells; simp only [rectC, List.nil_append, List.cons_append, Cells] at sk
                    go_region_held3 (fun W => W.cell? ⟨w.heap.size, 0, none⟩ = some (.int .i64 a.x0) ∧ W.cell? ⟨w.heap.size, 1, none⟩ = some (.int .i64 a.y0) ∧ W.cell? ⟨w.heap.size, 2, none⟩ = some (.int .i64 a.x1) ∧ W.cell? ⟨w.heap.size, 3, none⟩ = some (.int .i64 a.y1) ∧ W.cell? ⟨w.heap.size + 1, 0, none⟩ = some (.int .i64 b.x0) ∧ W.cell? ⟨w.heap.size + 1, 1, none⟩ = some (.int .i64 b.y0) ∧ W.cell? ⟨w.heap.size + 1, 2, none⟩ = some (.int .i64 b.x1) ∧ W.cell? ⟨w.heap.size + 1, 3, none⟩ = some (.int .i64 b.y1) ∧ W.cell? ⟨M, 0, none⟩ = some (.int .i64 m.x0) ∧ W.cell? ⟨M, 1, none⟩ = some (.int .i64 m.y0) ∧ W.cell? ⟨M, 2, none⟩ = some (.int .i64 m.x1) ∧ W.cell? ⟨M, 3, none⟩ = some (.int .i64 m.y1) ∧ W.cell? ⟨Nn, 0, none⟩ = some (.int .i64 n.x0) ∧ W.cell? ⟨Nn, 1, none⟩ = some (.int .i64 n.y0) ∧ W.cell? ⟨Nn, 2, none⟩ = some (.int .i64 n.x1) ∧ W.cell? ⟨Nn, 3, none⟩ = some (.int .i64 n.y1))
                      (first
                        | (with_reducible exact sk)
                        | go_keep)
                      (first
                        | (go_at_call 33; (with_reducible refine ((T3 _).out).mono ?_); rintro e wq ⟨rfl, hbq⟩; replace HL := Lib.hid (HL.out.step hbq); (try clear sk); have sk := HL.out.cells; simp only [rectC, List.nil_append, List.cons_append, Cells] at sk; clear hbq)
                        | (go_at_call 33; (with_reducible refine ((T4 _).out).mono ?_); rintro e wq ⟨rfl, hbq⟩; replace HL := Lib.hid (HL.out.step hbq); (try clear sk); have sk := HL.out.cells; simp only [rectC, List.nil_append, List.cons_append, Cells] at sk; clear hbq)
                        | (go_at_call 17; (with_reducible refine ((A1 _).out).mono ?_); rintro e wq ⟨rfl, hbq⟩; replace HL := Lib.hid (HL.out.step hbq); (try clear sk); have sk := HL.out.cells; simp only [rectC, List.nil_append, List.cons_append, Cells] at sk; clear hbq)
                        | (go_at_call 17; (with_reducible refine ((A2 _).out).mono ?_); rintro e wq ⟨rfl, hbq⟩; replace HL := Lib.hid (HL.out.step hbq); (try clear sk); have sk := HL.out.cells; simp only [rectC, List.nil_append, List.cons_append, Cells] at sk; clear hbq)
                        | (go_at_call 24; (with_reducible refine ((I1 _).out).mono ?_); rintro e wq ⟨rfl, hbq⟩; replace HL := Lib.hid (HL.out.step hbq); (try clear sk); have sk := HL.out.cells; simp only [rectC, List.nil_append, List.cons_append, Cells] at sk; clear hbq)
                        | (go_at_call 24; (with_reducible refine ((I2 _).out).mono ?_); rintro e wq ⟨rfl, hbq⟩; replace HL := Lib.hid (HL.out.step hbq); (try clear sk); have sk := HL.out.cells; simp only [rectC, List.nil_append, List.cons_append, Cells] at sk; clear hbq)
                        | (go_at_call 21; (with_reducible refine (example_any _).mono ?_); rintro e wq ⟨rfl, hbq⟩; replace HL := Lib.hid (HL.out.step hbq); (try clear sk); have sk := HL.out.cells; simp only [rectC, List.nil_append, List.cons_append, Cells] at sk; clear hbq)
                        | fail)
                    all_goals
                      go_wp2_with fail
                      go_ret
                      exact ⟨rfl, HL.out.below⟩
    · rw [h1] at C2
      clear h0 h1
      go_enter Try.func9, Try.ntmps9
      go_wp2_with fail
      obtain ⟨a0, a1, a2, a3, b0, b1, b2, b3, p0, p1⟩ := id HH.out.cells
      change World.cell? _ _ = _ at p1
      go_quiet (fail)
      replace HH := Lib.hid (HH.out.drewN nq)
      clear a0 a1 a2 a3 b0 b1 b2 b3 p0 p1
      obtain ⟨a0, a1, a2, a3, b0, b1, b2, b3, p0, p1⟩ := id HH.out.cells
      change World.cell? _ _ = _ at p1
      go_wp2_with fail
      refine ((C1 _).out).mono ?_
      rintro e wq ⟨rfl, hbq⟩
      replace HH := Lib.hid (HH.out.step hbq)
      clear hbq
      clear a0 a1 a2 a3 b0 b1 b2 b3 p0 p1
      obtain ⟨a0, a1, a2, a3, b0, b1, b2, b3, p0, p1⟩ := id HH.out.cells
      change World.cell? _ _ = _ at p1
      go_wp2_with fail
      refine ((C2 _).out).mono ?_
      rintro e wq ⟨rfl, hbq⟩
      replace HH := Lib.hid (HH.out.step hbq)
      clear hbq
      clear a0 a1 a2 a3 b0 b1 b2 b3 p0 p1
      obtain ⟨a0, a1, a2, a3, b0, b1, b2, b3, p0, p1⟩ := id HH.out.cells
      change World.cell? _ _ = _ at p1
      go_wp2_with fail
      refine (example_any _).mono ?_
      rintro e wq ⟨rfl, hbq⟩
      replace HH := Lib.hid (HH.out.step hbq)
      clear hbq
      go_wp2_with fail
      go_ret
      exact ⟨rfl, HH.out.below⟩
  · rw [h0] at C1
    clear h0
    go_enter Try.func9, Try.ntmps9
    go_wp2_with fail
    obtain ⟨a0, a1, a2, a3, b0, b1, b2, b3, p0, p1⟩ := id HH.out.cells
    change World.cell? _ _ = _ at p1
    go_quiet (fail)
    replace HH := Lib.hid (HH.out.drewN nq)
    clear a0 a1 a2 a3 b0 b1 b2 b3 p0 p1
    obtain ⟨a0, a1, a2, a3, b0, b1, b2, b3, p0, p1⟩ := id HH.out.cells
    change World.cell? _ _ = _ at p1
    go_wp2_with fail
    refine ((C1 _).out).mono ?_
    rintro e wq ⟨rfl, hbq⟩
    replace HH := Lib.hid (HH.out.step hbq)
    clear hbq
    clear a0 a1 a2 a3 b0 b1 b2 b3 p0 p1
    obtain ⟨a0, a1, a2, a3, b0, b1, b2, b3, p0, p1⟩ := id HH.out.cells
    change World.cell? _ _ = _ at p1
    go_wp2_with fail
    refine (example_any _).mono ?_
    rintro e wq ⟨rfl, hbq⟩
    replace HH := Lib.hid (HH.out.step hbq)
    clear hbq
    go_wp2_with fail
    go_ret
    exact ⟨rfl, HH.out.below⟩

set_option maxRecDepth 100000 in
theorem shifts_lifted (os : Os) (started : os.Started) (H : Type) (enc : TypeId × Value → H) :
    ReturnsInHanded {} Try.checked os 9 .any (Rows.rectShiftsSpec.pre6 enc Try.prog Try.f9 Rows.rectShiftsRow.domain false) (Rows.rectShiftsSpec.post enc Try.prog Try.f9 false true false false) := by
  refine returnsInHanded_of_change (C := Try.checked) own started (by kernel_rfl) Try.func9
    (ChangeSpec.witness6 (enc := enc) (C := Try.checked) false ⟨#[], #[.agg #[.int .i64 0, .int .i64 0, .int .i64 0, .int .i64 0], .agg #[.int .i64 0, .int .i64 0, .int .i64 0, .int .i64 0], .agg #[.int .i64 0, .int .i64 0]], []⟩ 8 (by kernel_rfl) (by kernel_rfl) (by kernel_rfl) (by kernel_rfl)) ?_
  intro W base args ds gs before hval0 hW _ _
  have hval : ∀ (j : Nat) t v, Try.f9.params[j]? = some t → args[j]? = some v → Value.okWide Try.prog W .any base t v := hval0
  have hW' := hW
  obtain ⟨p, q, hA0, hV, rfl, _, _⟩ := hW
  have hA : DataW.TrodAll enc Try.prog W 0 (fun _ => true) true Try.f9.params.toList args.toList ds p := hA0
  rw [Try.params9] at hA hval
  obtain ⟨v0, vs0, d0, ds0, p0, q0, hargs, rfl, rfl, h0, r0⟩ := trodAll_cons hA
  obtain ⟨v1, vs1, d1, ds1, p1, q1, rfl, rfl, rfl, h1, r1⟩ := trodAll_cons r0
  obtain ⟨v2, vs2, d2, ds2, p2, q2, rfl, rfl, rfl, h2, r2⟩ := trodAll_cons r1
  obtain ⟨rfl, rfl, rfl⟩ := trodAll_nil r2
  obtain rfl : args = #[v0, v1, v2] := by cases args; simp_all
  obtain ⟨rfl, rfl⟩ := trodVars_none hV
  clear hA0 hval0
  simp only [List.append_nil] at hW'
  have hlt0 : ∀ x ∈ p0, x.block < W.heap.size := fun x hx => hW'.lt x (by simp [hx])
  have k0 := h0
  have hlt1 : ∀ x ∈ p1, x.block < W.heap.size := fun x hx => hW'.lt x (by simp [hx])
  have k1 := h1
  have hlt2 : ∀ x ∈ p2, x.block < W.heap.size := fun x hx => hW'.lt x (by simp [hx])
  have k2 := h2
  obtain ⟨a0, rfl⟩ := open_rect (hval 0 23 v0 rfl rfl) h0
  obtain ⟨a1, rfl⟩ := open_rect (hval 1 23 v1 rfl rfl) h1
  obtain ⟨x2, y2, rfl⟩ := open_point (hval 2 38 v2 rfl rfl) h2
  refine (shifts_walk a0 a1 x2 y2 _).mono fun e W' ⟨he, hg⟩ => ?_
  subst he
  exact ⟨_, rfl, _, _, _, [], _, [], hW', trodAll_cons_mk (shut_bool Try.underlying4 _) trodAll_mk0,
    (trodAll_cons_mk (Below.trod laidOut (by kernel_rfl) (of_decide_eq_true (by kernel_rfl)) k0 hg hlt0) (trodAll_cons_mk (Below.trod laidOut (by kernel_rfl) (of_decide_eq_true (by kernel_rfl)) k1 hg hlt1) (trodAll_cons_mk (Below.trod laidOut (by kernel_rfl) (of_decide_eq_true (by kernel_rfl)) k2 hg hlt2) trodAll_mk0))), rfl, hg.frame _, fun h => by cases h⟩

theorem shifts_holds : Rows.RectShiftsSaid :=
  OpenClaim.holds_of_wide 9 Try.f9 rfl rfl rfl rfl rfl rfl rfl ⟨rfl, rfl, rfl, rfl, rfl⟩ rfl rfl rfl rfl rfl (by kernel_rfl) Try.func9 (by kernel_rfl)
    (of_decide_eq_true (by kernel_rfl)) (by unfold Func.isWrapper; first | (rw [if_pos (by decide +kernel)]; kernel_rfl) | (rw [if_neg (by decide +kernel)]; exact ⟨rfl, rfl⟩))
    (fun os started H enc _ => shifts_lifted os started H enc)

end Go.Proofs.Ytalklenngalfjaa
