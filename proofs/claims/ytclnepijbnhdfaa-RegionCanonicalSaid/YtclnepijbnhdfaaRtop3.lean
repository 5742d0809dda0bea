/-
  Area, Bounds and Translate of the reference.
-/
import Derived.Test.YtclnepijbnhdfaaRtop2
namespace Go.Proofs.Ytclnepijbnhdfaa
open Go.RowKit

theorem areaP_bd {r : R} (h : empB r = false) : 1 ≤ areaP r ∧ areaP r ≤ 1073741824 := by
  have := (emp_no r).1 h
  unfold areaP
  have h1 : 1 * 1 ≤ (r.x1 - r.x0) * (r.y1 - r.y0) := Int.mul_le_mul (by omega) (by omega) (by omega) (by omega)
  have h2 : (r.x1 - r.x0) * (r.y1 - r.y0) ≤ 32768 * 32768 := Int.mul_le_mul (by omega) (by omega) (by omega) (by omega)
  omega

theorem sumP_nonneg : ∀ {l : List R}, (∀ r ∈ l, empB r = false) → 0 ≤ sumP l
  | [], _ => Int.le_refl _
  | r :: l, h => by
    have h1 := (areaP_bd (h r List.mem_cons_self)).1
    have h2 := sumP_nonneg (l := l) (fun q hq => h q (List.mem_cons_of_mem _ hq))
    simp only [sumP]
    omega

theorem sumP_take {l : List R} (h : ∀ r ∈ l, empB r = false) {j : Nat} {r : R} (hj : l[j]? = some r) : 0 ≤ sumP (l.take j) ∧ sumP (l.take j) + areaP r ≤ sumP l ∧ sumP (l.take (j + 1)) = sumP (l.take j) + areaP r := by
  have e : sumP l = sumP (l.take j) + (areaP r + sumP (l.drop (j + 1))) := by
    conv => lhs; rw [← List.take_append_drop j l, drop_at hj, sumP_append]
    rfl
  have h1 := sumP_nonneg (l := l.take j) (fun q hq => h q (List.mem_of_mem_take hq))
  have h2 := sumP_nonneg (l := l.drop (j + 1)) (fun q hq => h q (List.mem_of_mem_drop hq))
  refine ⟨h1, by omega, ?_⟩
  rw [List.take_add_one, hj, sumP_append]
  simp [sumP]

theorem region_area {S : Int → Int → Bool} {l : List R} (h : Region S l) (hi : Inside S) : sumP l = cnt 32768 (-16384) S ∧ sumP l ≤ 1073741824 := by
  obtain ⟨L, rfl, hL⟩ := h.strips
  have e := area_strips (n := 32768) (A := -16384) hL (fun x y hs => by have := hi x y hs; omega)
  have h2 := (cnt_le (n := 32768) (A := -16384) S).2
  refine ⟨e, ?_⟩
  rw [e]
  exact h2

set_option maxRecDepth 100000 in
set_option maxHeartbeats 4000000 in
theorem rarea_any {w : World} {va : Value} {a : List R} (h : Rs w va a) (hl : a.length ≤ 500) : Calls Try.prog 19 #[va] w fun e w' => e = .returned (.int .i64 (sumP (combP orB a []))) ∧ Below w.heap.size w w' := by
  have C := Lib.hid (combined_any h (rs_nil w) (mode := 1) (op := orB) (.inl ⟨rfl, rfl⟩) (by simpa using hl))
  have HReg := Lib.hid (combP_ok (op := orB) rfl a [])
  have HFull := Lib.hid (region_full HReg.out (setS_inside rfl a []))
  have HTot := Lib.hid (region_area HReg.out (setS_inside rfl a [])).2
  obtain ⟨A, c, rfl, _, _, _⟩ := h
  generalize combP orB a [] = L at *
  go_enter Try.func19, Try.ntmps19
  go_wp2_with fail
  refine C.out.mono ?_
  rintro e w1 ⟨t, rfl, ho, hb⟩
  obtain ⟨Ay, cy, rfl, hcy, hmy, hcell⟩ := ho.rs
  simp only [maxLen] at hmy
  have HC := Lib.hid hcell
  have HB := Lib.hid hb
  obtain ⟨n, hn⟩ : ∃ n, L.length = n := ⟨_, rfl⟩
  have HN := Lib.hid hn
  rw [hn] at hcy ⊢
  clear hcell hn C ho hb
  go_wp2_with fail
  go_loopw [4, 5] (fun s k wr => ∃ (j : Nat), j ≤ n ∧ k = .int .i64 (j : Int) ∧ s = .int .i64 (sumP (L.take j)) ∧ Hid (Below w1.heap.size w1 wr)) (fun _ k _ => n - (intOf k).toNat)
  case atStart => exact ⟨0, by omega, rfl, rfl, Below.refl _ _⟩
  case round =>
    obtain ⟨j, hj, rfl, rfl, hrel⟩ := hrel
    by_cases hlt : j < n
    · obtain ⟨r, hr⟩ : ∃ r, L[j]? = some r := ⟨_, List.getElem?_eq_getElem (by rw [HN.out]; exact hlt)⟩
      obtain ⟨b, off, rfl, hb, hcs⟩ := HC.out (by rw [HN.out]; omega)
      obtain ⟨s0, s1, s2⟩ := sumP_take HFull.out hr
      have HS := Lib.hid s2
      have htot := HTot.out
      have hbd := (emp_no r).1 (HFull.out r (List.mem_of_getElem? hr))
      have had := areaP_bd (HFull.out r (List.mem_of_getElem? hr))
      unfold areaP at had s1
      have T := hcs j r hr
      have t0 := (hrel.out.cell (p := ⟨b, off + j * 4, none⟩) hb).trans T.1
      have t1 := (hrel.out.cell (p := ⟨b, off + j * 4 + 1, none⟩) hb).trans T.2.1
      have t2 := (hrel.out.cell (p := ⟨b, off + j * 4 + 2, none⟩) hb).trans T.2.2.1
      have t3 := (hrel.out.cell (p := ⟨b, off + j * 4 + 3, none⟩) hb).trans T.2.2.2
      have q0 : (j : Int) < n := by omega
      have q1 : (0 : Int) ≤ j := by omega
      have HE : Hid (sumP (L.take j) + (r.x1 - r.x0) * (r.y1 - r.y0) = sumP (L.take (j + 1))) := Lib.hid (by rw [HS.out]; rfl)
      have f1 : IntKind.i64.wrap (r.x1 - r.x0) = r.x1 - r.x0 := IntWalk.i64_in _ (by omega)
      have f2 : IntKind.i64.wrap (r.y1 - r.y0) = r.y1 - r.y0 := IntWalk.i64_in _ (by omega)
      have f3 : IntKind.i64.wrap ((r.x1 - r.x0) * (r.y1 - r.y0)) = (r.x1 - r.x0) * (r.y1 - r.y0) := IntWalk.i64_in _ (by omega)
      have f4 : IntKind.i64.wrap (sumP (L.take j) + (r.x1 - r.x0) * (r.y1 - r.y0)) = sumP (L.take j) + (r.x1 - r.x0) * (r.y1 - r.y0) := IntWalk.i64_in _ (by omega)
      clear hr hcs T s0 s1 s2 htot hbd had
      go_wp2_with fail
      go_quiet (fail)
      clear f1 f2 f3 f4
      go_wp2_with fail
      go_roundw
      case rel => exact ⟨j + 1, by omega, by go_num, by rw [← HE.out], below_draws hrel.out _⟩
      case measure => simp [intOf]; omega
    · have q0 : (n : Int) ≤ (j : Int) := by omega
      have e : L.take j = L := List.take_of_length_le (by rw [HN.out]; omega)
      rw [e]
      clear e
      go_wp2_with fail
      go_ret
      exact ⟨rfl, HB.out.trans (hrel.out.mono HB.out.size)⟩

/-- the smallest rectangle, as the reference finds it -/
def refB : List R → Bool → R → R
  | [], _, out => out
  | r :: l, b, out => if empB r then refB l b out else refB l true (hullR (if b then out else r) r)

set_option maxRecDepth 100000 in
set_option maxHeartbeats 4000000 in
theorem rbounds_any {w : World} {v : Value} {l : List R} (h : Rs w v l) :
    Calls Try.prog 21 #[v] w fun e w' => e = .returned (.agg #[.int .i64 (refB l false zeroR).x0, .int .i64 (refB l false zeroR).y0, .int .i64 (refB l false zeroR).x1, .int .i64 (refB l false zeroR).y1]) ∧ Below w.heap.size w w' := by
  obtain ⟨A, c, rfl, hc, hm, hcell⟩ := h
  simp only [maxLen] at hm
  have HC := Lib.hid hcell
  obtain ⟨len, hn⟩ : ∃ len, l.length = len := ⟨_, rfl⟩
  have HN := Lib.hid hn
  rw [hn] at hc ⊢
  obtain ⟨res, hres⟩ : ∃ res, refB l false zeroR = res := ⟨_, rfl⟩
  have HRES := Lib.hid hres
  rw [hres]
  clear hcell hn hres
  go_enter Try.func21, Try.ntmps21
  have F1 := Lib.hid (show Four ((w.alloc (.cells #[.int .i64 0, .int .i64 0, .int .i64 0, .int .i64 0] 32)).alloc (.cells #[.int .i64 0, .int .i64 0, .int .i64 0, .int .i64 0] 32)) (w.heap.size + 1) (.int .i64 zeroR.x0) (.int .i64 zeroR.y0) (.int .i64 zeroR.x1) (.int .i64 zeroR.y1) by
    have := Four.new (w.alloc (.cells #[.int .i64 0, .int .i64 0, .int .i64 0, .int .i64 0] 32)) (.int .i64 0) (.int .i64 0) (.int .i64 0) (.int .i64 0) 32
    rwa [World.size_alloc] at this)
  have F0 := Lib.hid ((Four.new w (.int .i64 0) (.int .i64 0) (.int .i64 0) (.int .i64 0) 32).alloc (by simp) (.cells #[.int .i64 0, .int .i64 0, .int .i64 0, .int .i64 0] 32))
  have H0 := Lib.hid (((Below.refl w.heap.size w).alloc (Nat.le_refl _) (.cells #[.int .i64 0, .int .i64 0, .int .i64 0, .int .i64 0] 32)).alloc (by simp) (.cells #[.int .i64 0, .int .i64 0, .int .i64 0, .int .i64 0] 32))
  go_wp2_with fail
  generalize (w.alloc (.cells #[.int .i64 0, .int .i64 0, .int .i64 0, .int .i64 0] 32)).alloc (.cells #[.int .i64 0, .int .i64 0, .int .i64 0, .int .i64 0] 32) = W0 at *
  go_loopw [4, 5] (fun sm k wr => ∃ (j : Nat) (s : Bool) (o : R), j ≤ len ∧ k = .int .i64 (j : Int) ∧ sm = .bool s ∧ Hid (Four wr (w.heap.size + 1) (.int .i64 o.x0) (.int .i64 o.y0) (.int .i64 o.x1) (.int .i64 o.y1) ∧ Four wr w.heap.size (.int .i64 0) (.int .i64 0) (.int .i64 0) (.int .i64 0) ∧ Below w.heap.size w wr ∧ refB (l.drop j) s o = res)) (fun _ k _ => len - (intOf k).toNat)
  case atStart => exact ⟨0, false, zeroR, by omega, rfl, rfl, F1.out, F0.out, H0.out, HRES.out⟩
  case round =>
    obtain ⟨j, s, o, hj, rfl, rfl, hrel⟩ := hrel
    have HB := Lib.hid hrel.out.2.2.1
    have G1 := hrel.out.1
    have G0 := hrel.out.2.1
    by_cases hlt : j < len
    · obtain ⟨r, hr⟩ : ∃ r, l[j]? = some r := ⟨_, List.getElem?_eq_getElem (by rw [HN.out]; exact hlt)⟩
      obtain ⟨b, off, rfl, hb, hcs⟩ := HC.out (by rw [HN.out]; omega)
      have T := Lib.hid (hcs j r hr)
      have HR := Lib.hid (show refB (r :: l.drop (j + 1)) s o = res by rw [← hrel.out.2.2.2, drop_at hr])
      have q0 : (j : Int) < len := by omega
      have q1 : (0 : Int) ≤ j := by omega
      have hbr : b < wr.heap.size := Nat.lt_of_lt_of_le hb HB.out.size
      have hg1 : w.heap.size + 1 < wr.heap.size := World.block_lt_of_cell? wr _ G1.1
      have hg0 : w.heap.size < wr.heap.size := by omega
      have t0 := (HB.out.cell (p := ⟨b, off + j * 4, none⟩) hb).trans T.out.1
      have t1 := (HB.out.cell (p := ⟨b, off + j * 4 + 1, none⟩) hb).trans T.out.2.1
      have t2 := (HB.out.cell (p := ⟨b, off + j * 4 + 2, none⟩) hb).trans T.out.2.2.1
      have t3 := (HB.out.cell (p := ⟨b, off + j * 4 + 3, none⟩) hb).trans T.out.2.2.2
      have C1 := fun W => Lib.hid (usable_any r W)
      clear hr hcs hrel
      cases he : empB r
      · rw [he] at C1
        have HR2 := Lib.hid (show refB (l.drop (j + 1)) true (hullR (if s then o else r) r) = res by rw [← HR.out, refB, he]; rfl)
        clear he
        go_wp2_with fail
        refine (C1 _).out.mono ?_
        rintro e w1 ⟨rfl, hb1⟩
        have HB1 := Lib.hid (HB.out.trans (hb1.mono HB.out.size))
        replace G1 := G1.keep hb1 hg1
        replace G0 := G0.keep hb1 hg0
        have t0 := (HB1.out.cell (p := ⟨b, off + j * 4, none⟩) hb).trans T.out.1
        have t1 := (HB1.out.cell (p := ⟨b, off + j * 4 + 1, none⟩) hb).trans T.out.2.1
        have t2 := (HB1.out.cell (p := ⟨b, off + j * 4 + 2, none⟩) hb).trans T.out.2.2.1
        have t3 := (HB1.out.cell (p := ⟨b, off + j * 4 + 3, none⟩) hb).trans T.out.2.2.2
        have hz1 : w.heap.size + 1 < w1.heap.size := Nat.lt_of_lt_of_le hg1 hb1.size
        have hbw : b ≠ w.heap.size + 1 := by omega
        clear hb1 C1 HR
        cases s
        · obtain ⟨c0, c1, c2, c3, cf⟩ := id G1
          have HG1 := Lib.hid G1
          have HG0 := Lib.hid G0
          clear G1 G0
          go_wp2_with fail
          have HGA := Lib.hid (show Four (set4 w1 (w.heap.size + 1) (.int .i64 r.x0) (.int .i64 r.y0) (.int .i64 r.x1) (.int .i64 r.y1)) (w.heap.size + 1) (.int .i64 r.x0) (.int .i64 r.y0) (.int .i64 r.x1) (.int .i64 r.y1) from HG1.out.set)
          have HGB := Lib.hid (show Four (set4 w1 (w.heap.size + 1) (.int .i64 r.x0) (.int .i64 r.y0) (.int .i64 r.x1) (.int .i64 r.y1)) w.heap.size (.int .i64 0) (.int .i64 0) (.int .i64 0) (.int .i64 0) from HG0.out.far (by omega))
          have HBA := Lib.hid (below_four (k := w.heap.size + 1) HB1.out (by omega) (x0 := .int .i64 r.x0) (x1 := .int .i64 r.y0) (x2 := .int .i64 r.x1) (x3 := .int .i64 r.y1))
          clear t0 t1 t2 t3 c0 c1 c2 c3 cf
          change Code.wp _ _ _ _ (set4 w1 (w.heap.size + 1) (.int .i64 r.x0) (.int .i64 r.y0) (.int .i64 r.x1) (.int .i64 r.y1))
          generalize set4 w1 (w.heap.size + 1) (.int .i64 r.x0) (.int .i64 r.y0) (.int .i64 r.x1) (.int .i64 r.y1) = w2 at *
          obtain ⟨p, hp⟩ : ∃ p, p = r := ⟨r, rfl⟩
          have HGA := Lib.hid (show Four w2 (w.heap.size + 1) (.int .i64 p.x0) (.int .i64 p.y0) (.int .i64 p.x1) (.int .i64 p.y1) by rw [hp]; exact HGA.out)
          have HR2 := Lib.hid (show refB (l.drop (j + 1)) true (hullR p r) = res by rw [hp]; exact HR2.out)
          clear hp
          have t0 := (HBA.out.cell (p := ⟨b, off + j * 4, none⟩) hb).trans T.out.1
          have t1 := (HBA.out.cell (p := ⟨b, off + j * 4 + 1, none⟩) hb).trans T.out.2.1
          have t2 := (HBA.out.cell (p := ⟨b, off + j * 4 + 2, none⟩) hb).trans T.out.2.2.1
          have t3 := (HBA.out.cell (p := ⟨b, off + j * 4 + 3, none⟩) hb).trans T.out.2.2.2
          have b0 := HGA.out.1
          have b1 := HGA.out.2.1
          have b2 := HGA.out.2.2.1
          have b3 := HGA.out.2.2.2.1
          have bf := HGA.out.2.2.2.2
          go_wp2_with fail
          refine wp_region_still_tail 33 (by kernel_rfl) (by kernel_rfl) ?_
          simp only [List.take_succ_cons, List.take_zero, List.drop_succ_cons, List.drop_zero]
          change wpStill _ _ w2.drew (fun a' => wpList _ _ _ _ a' w2.drew) _ _
          repeat still_step
          refine wpStill_nil ?_
          go_wp2_with fail
          have HE := Lib.hid (show Four (set4 w2.drew (w.heap.size + 1) (.int .i64 (hullR p r).x0) (.int .i64 (hullR p r).y0) (.int .i64 (hullR p r).x1) (.int .i64 (hullR p r).y1)) (w.heap.size + 1) (.int .i64 (hullR p r).x0) (.int .i64 (hullR p r).y0) (.int .i64 (hullR p r).x1) (.int .i64 (hullR p r).y1) from HGA.out.drew.set)
          have HE0 := Lib.hid (show Four (set4 w2.drew (w.heap.size + 1) (.int .i64 (hullR p r).x0) (.int .i64 (hullR p r).y0) (.int .i64 (hullR p r).x1) (.int .i64 (hullR p r).y1)) w.heap.size (.int .i64 0) (.int .i64 0) (.int .i64 0) (.int .i64 0) from HGB.out.drew.far (by omega))
          have HEB := Lib.hid (below_four (k := w.heap.size + 1) HBA.out.drew (by omega) (x0 := .int .i64 (hullR p r).x0) (x1 := .int .i64 (hullR p r).y0) (x2 := .int .i64 (hullR p r).x1) (x3 := .int .i64 (hullR p r).y1))
          clear b0 b1 b2 b3 bf t0 t1 t2 t3
          go_roundw
          case rel => exact ⟨j + 1, true, hullR p r, by omega, by go_num, rfl, HE.out, HE0.out, HEB.out, HR2.out⟩
          case measure => simp [intOf]; omega
        · have HGA := Lib.hid G1
          have HGB := Lib.hid G0
          have HBA := HB1
          clear G1 G0
          have b0 := HGA.out.1
          have b1 := HGA.out.2.1
          have b2 := HGA.out.2.2.1
          have b3 := HGA.out.2.2.2.1
          have bf := HGA.out.2.2.2.2
          go_wp2_with fail
          refine wp_region_still_tail 33 (by kernel_rfl) (by kernel_rfl) ?_
          simp only [List.take_succ_cons, List.take_zero, List.drop_succ_cons, List.drop_zero]
          change wpStill _ _ w1.drew (fun a' => wpList _ _ _ _ a' w1.drew) _ _
          repeat still_step
          refine wpStill_nil ?_
          go_wp2_with fail
          have HE := Lib.hid (show Four (set4 w1.drew (w.heap.size + 1) (.int .i64 (hullR o r).x0) (.int .i64 (hullR o r).y0) (.int .i64 (hullR o r).x1) (.int .i64 (hullR o r).y1)) (w.heap.size + 1) (.int .i64 (hullR o r).x0) (.int .i64 (hullR o r).y0) (.int .i64 (hullR o r).x1) (.int .i64 (hullR o r).y1) from HGA.out.drew.set)
          have HE0 := Lib.hid (show Four (set4 w1.drew (w.heap.size + 1) (.int .i64 (hullR o r).x0) (.int .i64 (hullR o r).y0) (.int .i64 (hullR o r).x1) (.int .i64 (hullR o r).y1)) w.heap.size (.int .i64 0) (.int .i64 0) (.int .i64 0) (.int .i64 0) from HGB.out.drew.far (by omega))
          have HEB := Lib.hid (below_four (k := w.heap.size + 1) HBA.out.drew (by omega) (x0 := .int .i64 (hullR o r).x0) (x1 := .int .i64 (hullR o r).y0) (x2 := .int .i64 (hullR o r).x1) (x3 := .int .i64 (hullR o r).y1))
          clear b0 b1 b2 b3 bf t0 t1 t2 t3
          go_roundw
          case rel => exact ⟨j + 1, true, hullR o r, by omega, by go_num, rfl, HE.out, HE0.out, HEB.out, HR2.out⟩
          case measure => simp [intOf]; omega
      · rw [he] at C1
        have HR2 := Lib.hid (show refB (l.drop (j + 1)) s o = res by rw [← HR.out, refB, he]; rfl)
        have HG1 := Lib.hid G1
        have HG0 := Lib.hid G0
        clear he HR G1 G0
        go_wp2_with fail
        refine (C1 _).out.mono ?_
        rintro e w1 ⟨rfl, hb1⟩
        have HB1 := Lib.hid (HB.out.trans (hb1.mono HB.out.size))
        replace HG1 := Lib.hid (HG1.out.keep hb1 hg1)
        replace HG0 := Lib.hid (HG0.out.keep hb1 hg0)
        clear hb1 C1 t0 t1 t2 t3
        go_wp2_with fail
        go_roundw
        case rel => exact ⟨j + 1, s, o, by omega, by go_num, rfl, HG1.out, HG0.out, HB1.out, HR2.out⟩
        case measure => simp [intOf]; omega
    · have q0 : (len : Int) ≤ (j : Int) := by omega
      have e : res = o := by
        rw [← hrel.out.2.2.2, List.drop_eq_nil_of_le (by rw [HN.out]; omega)]
        rfl
      subst e
      obtain ⟨c0, c1, c2, c3, cf⟩ := G1
      obtain ⟨d0, d1, d2, d3, df⟩ := id G0
      have HG0 := Lib.hid G0
      clear G0 hrel HRES
      go_wp2_with fail
      exact bodyPost_ret (v := .agg #[.int .i64 res.x0, .int .i64 res.y0, .int .i64 res.x1, .int .i64 res.y1]) (by simp [results, Try.results21, go_sem, d0, d1, d2, d3]) rfl ⟨rfl, below_four HB.out (Nat.le_refl _)⟩

end Go.Proofs.Ytclnepijbnhdfaa
