/-
  Two lists of rectangles compared: Same of the reference, Equal of package slices.
-/
import Derived.Test.YtclnepijbnhdfaaSame
namespace Go.Proofs.Ytclnepijbnhdfaa
open Go.RowKit

theorem same_iff (a b : R) : sameR a b = true ↔ a = b := by
  constructor
  · intro h
    simp [sameR] at h
    exact R.same h.1.1.1 h.1.1.2 h.1.2 h.2
  · rintro rfl
    simp [sameR]

def sameL : List R → List R → Bool
  | [], [] => true
  | x :: l, y :: m => sameR x y && sameL l m
  | _, _ => false

theorem sameL_iff : ∀ {l m : List R}, sameL l m = true ↔ l = m
  | [], [] => by simp [sameL]
  | [], _ :: _ => by simp [sameL]
  | _ :: _, [] => by simp [sameL]
  | x :: l, y :: m => by
    simp only [sameL, Bool.and_eq_true, same_iff, List.cons.injEq, sameL_iff (l := l) (m := m)]

theorem sameL_refl (l : List R) : sameL l l = true := sameL_iff.2 rfl

set_option maxHeartbeats 4000000 in
theorem eql_rect (r s : R) (w : World) : (binOp .eql 32 (.agg #[.int .i64 r.x0, .int .i64 r.y0, .int .i64 r.x1, .int .i64 r.y1]) (.agg #[.int .i64 s.x0, .int .i64 s.y0, .int .i64 s.x1, .int .i64 s.y1])).run Try.prog w = .ok (.bool (sameR r s)) w := by
  have h : ∀ d : Nat, (Op.equalIn (d + 3) 32 (.agg #[.int .i64 r.x0, .int .i64 r.y0, .int .i64 r.x1, .int .i64 r.y1]) (.agg #[.int .i64 s.x0, .int .i64 s.y0, .int .i64 s.x1, .int .i64 s.y1])).run Try.prog w = .ok (sameR r s) w := fun d => by
    simp [Op.equalIn, run_underlying Try.underlying32, run_underlying Try.underlying3, go_sem]
    unfold sameR
    by_cases h0 : r.x0 = s.x0 <;> by_cases h1 : r.y0 = s.y0 <;> by_cases h2 : r.x1 = s.x1 <;> by_cases h3 : r.y1 = s.y1 <;> simp [h0, h1, h2, h3]
  simp only [binOp]
  simp [Op.equal, Op.maxDepth, h 9997]

set_option maxHeartbeats 4000000 in
theorem neq_rect (r s : R) (w : World) : (binOp .neq 32 (.agg #[.int .i64 r.x0, .int .i64 r.y0, .int .i64 r.x1, .int .i64 r.y1]) (.agg #[.int .i64 s.x0, .int .i64 s.y0, .int .i64 s.x1, .int .i64 s.y1])).run Try.prog w = .ok (.bool (!sameR r s)) w := by
  have h : ∀ d : Nat, (Op.equalIn (d + 3) 32 (.agg #[.int .i64 r.x0, .int .i64 r.y0, .int .i64 r.x1, .int .i64 r.y1]) (.agg #[.int .i64 s.x0, .int .i64 s.y0, .int .i64 s.x1, .int .i64 s.y1])).run Try.prog w = .ok (sameR r s) w := fun d => by
    simp [Op.equalIn, run_underlying Try.underlying32, run_underlying Try.underlying3, go_sem]
    unfold sameR
    by_cases h0 : r.x0 = s.x0 <;> by_cases h1 : r.y0 = s.y0 <;> by_cases h2 : r.x1 = s.x1 <;> by_cases h3 : r.y1 = s.y1 <;> simp [h0, h1, h2, h3]
  simp only [binOp]
  simp [Op.equal, Op.maxDepth, h 9997]

set_option maxRecDepth 100000 in
set_option maxHeartbeats 4000000 in
theorem same_any {w : World} {v u : Value} {l m : List R} (h : Rs w v l) (hu : Rs w u m) :
    Calls Try.prog 13 #[v, u] w fun e w' => e = .returned (.bool (sameL l m)) ∧ Below w.heap.size w w' := by
  obtain ⟨A, c, rfl, hc, hm, hcell⟩ := h
  obtain ⟨A', c', rfl, hc', hm', hcell'⟩ := hu
  simp only [maxLen] at hm hm'
  by_cases he : l.length = m.length
  · have HC := Lib.hid hcell
    have HC' := Lib.hid hcell'
    obtain ⟨len, hn⟩ : ∃ len, l.length = len := ⟨_, rfl⟩
    rw [← he, hn] at hc'
    rw [← he, hn]
    rw [hn] at hc
    have HN := Lib.hid hn
    have HN' := Lib.hid (he.symm.trans hn)
    obtain ⟨res, hres⟩ : ∃ res, sameL l m = res := ⟨_, rfl⟩
    have HRES := Lib.hid hres
    rw [hres]
    clear hcell hcell' hn he hres
    go_enter Try.func13, Try.ntmps13
    go_wp2_with fail
    go_loopw [5] (fun k wr => ∃ (j : Nat), j ≤ len ∧ k = .int .i64 (j : Int) ∧ Hid (Below w.heap.size w wr ∧ l.take j = m.take j)) (fun k _ => len - (intOf k).toNat)
    case atStart => exact ⟨0, by omega, rfl, Below.refl _ _, by simp⟩
    case round =>
      obtain ⟨j, hj, rfl, hrel⟩ := hrel
      have HB := Lib.hid hrel.out.1
      by_cases hlt : j < len
      · obtain ⟨x, hx⟩ : ∃ x, l[j]? = some x := ⟨_, List.getElem?_eq_getElem (by rw [HN.out]; exact hlt)⟩
        obtain ⟨y, hy⟩ : ∃ y, m[j]? = some y := ⟨_, List.getElem?_eq_getElem (by rw [HN'.out]; exact hlt)⟩
        obtain ⟨b, off, rfl, hb, hcs⟩ := HC.out (by rw [HN.out]; omega)
        obtain ⟨b', off', rfl, hb', hcs'⟩ := HC'.out (by rw [HN'.out]; omega)
        obtain ⟨t0, t1, t2, t3⟩ := hcs j x hx
        obtain ⟨s0, s1, s2, s3⟩ := hcs' j y hy
        rw [← HB.out.cell (p := ⟨b, off + j * 4, none⟩) hb] at t0
        rw [← HB.out.cell (p := ⟨b, off + j * 4 + 1, none⟩) hb] at t1
        rw [← HB.out.cell (p := ⟨b, off + j * 4 + 2, none⟩) hb] at t2
        rw [← HB.out.cell (p := ⟨b, off + j * 4 + 3, none⟩) hb] at t3
        rw [← HB.out.cell (p := ⟨b', off' + j * 4, none⟩) hb'] at s0
        rw [← HB.out.cell (p := ⟨b', off' + j * 4 + 1, none⟩) hb'] at s1
        rw [← HB.out.cell (p := ⟨b', off' + j * 4 + 2, none⟩) hb'] at s2
        rw [← HB.out.cell (p := ⟨b', off' + j * 4 + 3, none⟩) hb'] at s3
        have q0 : (j : Int) < len := by omega
        have q1 : (0 : Int) ≤ j := by omega
        have HX := Lib.hid hx
        have HY := Lib.hid hy
        clear hx hy hcs hcs'
        have E1 := fun W => neq_rect x y W
        cases h1 : sameR x y
        · rw [h1] at E1
          have HNE : Hid (l ≠ m) := Lib.hid (fun e => by
            have h2 := HX.out
            rw [e, HY.out] at h2
            have h3 := (same_iff x y).2 (Option.some.inj h2).symm
            rw [h1] at h3
            cases h3)
          have e : res = false := by
            rw [← HRES.out]
            cases h4 : sameL l m
            · rfl
            · exact absurd (sameL_iff.1 h4) HNE.out
          subst e
          clear h1
          simp only [Bool.not_false] at E1
          go_wp2_with fail
          go_quiet (fail)
          go_wp2_with fail
          go_ret
          exact ⟨rfl, below_draws HB.out _⟩
        · rw [h1] at E1
          have hxy := (same_iff x y).1 h1
          have HT := Lib.hid (show l.take (j + 1) = m.take (j + 1) by rw [List.take_add_one, List.take_add_one, hrel.out.2, HX.out, HY.out, hxy])
          clear h1 hxy
          simp only [Bool.not_true] at E1
          go_wp2_with fail
          go_quiet (fail)
          go_wp2_with fail
          go_roundw
          case rel => exact ⟨j + 1, by omega, by go_num, Lib.hid ⟨below_draws HB.out _, HT.out⟩⟩
          case measure => simp [intOf]; omega
      · have q0 : (len : Int) ≤ (j : Int) := by omega
        have HE := hrel.out.2
        rw [List.take_of_length_le (by rw [HN.out]; omega), List.take_of_length_le (by rw [HN'.out]; omega)] at HE
        have e : res = true := by rw [← HRES.out]; exact sameL_iff.2 HE
        clear HE hrel
        subst e
        go_wp2_with fail
        go_ret
        exact ⟨rfl, HB.out⟩
  · have e : sameL l m = false := by
      cases h4 : sameL l m
      · rfl
      · exact absurd (by rw [sameL_iff.1 h4]) he
    rw [e]
    obtain ⟨n1, h1⟩ : ∃ n, l.length = n := ⟨_, rfl⟩
    obtain ⟨n2, h2⟩ : ∃ n, m.length = n := ⟨_, rfl⟩
    rw [h1] at hc he ⊢
    rw [h2] at hc' he ⊢
    have q : ¬ (n1 : Int) = n2 := by omega
    clear h1 h2 hcell hcell' he e
    go_enter Try.func13, Try.ntmps13
    go_wp2_with fail
    go_ret
    exact ⟨rfl, Below.refl _ _⟩

set_option maxRecDepth 100000 in
set_option maxHeartbeats 4000000 in
theorem equal_any {w : World} {v u : Value} {l m : List R} (h : Rs w v l) (hu : Rs w u m) :
    Calls Try.prog 37 #[v, u] w fun e w' => e = .returned (.bool (sameL l m)) ∧ Below w.heap.size w w' := by
  obtain ⟨A, c, rfl, hc, hm, hcell⟩ := h
  obtain ⟨A', c', rfl, hc', hm', hcell'⟩ := hu
  simp only [maxLen] at hm hm'
  by_cases he : l.length = m.length
  · have HC := Lib.hid hcell
    have HC' := Lib.hid hcell'
    obtain ⟨len, hn⟩ : ∃ len, l.length = len := ⟨_, rfl⟩
    rw [← he, hn] at hc'
    rw [← he, hn]
    rw [hn] at hc
    have HN := Lib.hid hn
    have HN' := Lib.hid (he.symm.trans hn)
    obtain ⟨res, hres⟩ : ∃ res, sameL l m = res := ⟨_, rfl⟩
    have HRES := Lib.hid hres
    rw [hres]
    clear hcell hcell' hn he hres
    go_enter Try.func37, Try.ntmps37
    go_wp2_with fail
    go_loopw [13] (fun k wr => ∃ (j : Nat), j ≤ len ∧ k = .int .i64 (j : Int) ∧ Hid (Below w.heap.size w wr ∧ l.take j = m.take j)) (fun k _ => len - (intOf k).toNat)
    case atStart => exact ⟨0, by omega, rfl, Below.refl _ _, by simp⟩
    case round =>
      obtain ⟨j, hj, rfl, hrel⟩ := hrel
      have HB := Lib.hid hrel.out.1
      by_cases hlt : j < len
      · obtain ⟨x, hx⟩ : ∃ x, l[j]? = some x := ⟨_, List.getElem?_eq_getElem (by rw [HN.out]; exact hlt)⟩
        obtain ⟨y, hy⟩ : ∃ y, m[j]? = some y := ⟨_, List.getElem?_eq_getElem (by rw [HN'.out]; exact hlt)⟩
        obtain ⟨b, off, rfl, hb, hcs⟩ := HC.out (by rw [HN.out]; omega)
        obtain ⟨b', off', rfl, hb', hcs'⟩ := HC'.out (by rw [HN'.out]; omega)
        obtain ⟨t0, t1, t2, t3⟩ := hcs j x hx
        obtain ⟨s0, s1, s2, s3⟩ := hcs' j y hy
        rw [← HB.out.cell (p := ⟨b, off + j * 4, none⟩) hb] at t0
        rw [← HB.out.cell (p := ⟨b, off + j * 4 + 1, none⟩) hb] at t1
        rw [← HB.out.cell (p := ⟨b, off + j * 4 + 2, none⟩) hb] at t2
        rw [← HB.out.cell (p := ⟨b, off + j * 4 + 3, none⟩) hb] at t3
        rw [← HB.out.cell (p := ⟨b', off' + j * 4, none⟩) hb'] at s0
        rw [← HB.out.cell (p := ⟨b', off' + j * 4 + 1, none⟩) hb'] at s1
        rw [← HB.out.cell (p := ⟨b', off' + j * 4 + 2, none⟩) hb'] at s2
        rw [← HB.out.cell (p := ⟨b', off' + j * 4 + 3, none⟩) hb'] at s3
        have q0 : (j : Int) < len := by omega
        have q1 : (0 : Int) ≤ j := by omega
        have HX := Lib.hid hx
        have HY := Lib.hid hy
        clear hx hy hcs hcs'
        have E1 := fun W => neq_rect x y W
        cases h1 : sameR x y
        · rw [h1] at E1
          have HNE : Hid (l ≠ m) := Lib.hid (fun e => by
            have h2 := HX.out
            rw [e, HY.out] at h2
            have h3 := (same_iff x y).2 (Option.some.inj h2).symm
            rw [h1] at h3
            cases h3)
          have e : res = false := by
            rw [← HRES.out]
            cases h4 : sameL l m
            · rfl
            · exact absurd (sameL_iff.1 h4) HNE.out
          subst e
          clear h1
          simp only [Bool.not_false] at E1
          go_wp2_with fail
          go_quiet (fail)
          go_wp2_with fail
          go_ret
          exact ⟨rfl, below_draws HB.out _⟩
        · rw [h1] at E1
          have hxy := (same_iff x y).1 h1
          have HT := Lib.hid (show l.take (j + 1) = m.take (j + 1) by rw [List.take_add_one, List.take_add_one, hrel.out.2, HX.out, HY.out, hxy])
          clear h1 hxy
          simp only [Bool.not_true] at E1
          go_wp2_with fail
          go_quiet (fail)
          go_wp2_with fail
          go_roundw
          case rel => exact ⟨j + 1, by omega, by go_num, Lib.hid ⟨below_draws HB.out _, HT.out⟩⟩
          case measure => simp [intOf]; omega
      · have q0 : (len : Int) ≤ (j : Int) := by omega
        have HE := hrel.out.2
        rw [List.take_of_length_le (by rw [HN.out]; omega), List.take_of_length_le (by rw [HN'.out]; omega)] at HE
        have e : res = true := by rw [← HRES.out]; exact sameL_iff.2 HE
        clear HE hrel
        subst e
        go_wp2_with fail
        go_ret
        exact ⟨rfl, HB.out⟩
  · have e : sameL l m = false := by
      cases h4 : sameL l m
      · rfl
      · exact absurd (by rw [sameL_iff.1 h4]) he
    rw [e]
    obtain ⟨n1, h1⟩ : ∃ n, l.length = n := ⟨_, rfl⟩
    obtain ⟨n2, h2⟩ : ∃ n, m.length = n := ⟨_, rfl⟩
    rw [h1] at hc he ⊢
    rw [h2] at hc' he ⊢
    have q : ¬ (n1 : Int) = n2 := by omega
    clear h1 h2 hcell hcell' he e
    go_enter Try.func37, Try.ntmps37
    go_wp2_with fail
    go_ret
    exact ⟨rfl, Below.refl _ _⟩

end Go.Proofs.Ytclnepijbnhdfaa
