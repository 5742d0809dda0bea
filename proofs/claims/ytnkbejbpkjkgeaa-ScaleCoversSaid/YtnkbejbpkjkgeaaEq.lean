/-
  Equal of package slices at pixels, Equal of package buffer and of the reference.
-/
import Derived.Test.YtnkbejbpkjkgeaaAt
namespace Go.Proofs.Ytnkbejbpkjkgeaa
open Go.RowKit

set_option maxHeartbeats 2000000 in
theorem neq_px (r s : Px) (w : World) : (binOp .neq 43 (.agg #[.int .u8 (r.r : Int), .int .u8 (r.g : Int), .int .u8 (r.b : Int), .int .u8 (r.a : Int)]) (.agg #[.int .u8 (s.r : Int), .int .u8 (s.g : Int), .int .u8 (s.b : Int), .int .u8 (s.a : Int)])).run Try.prog w = .ok (.bool (!sameP r s)) w := by
  have h : ∀ d : Nat, (Op.equalIn (d + 3) 43 (.agg #[.int .u8 (r.r : Int), .int .u8 (r.g : Int), .int .u8 (r.b : Int), .int .u8 (r.a : Int)]) (.agg #[.int .u8 (s.r : Int), .int .u8 (s.g : Int), .int .u8 (s.b : Int), .int .u8 (s.a : Int)])).run Try.prog w = .ok (sameP r s) w := fun d => by
    simp [Op.equalIn, run_underlying Try.underlying43, run_underlying Try.underlying5, go_sem]
    unfold sameP
    by_cases h0 : r.r = s.r <;> by_cases h1 : r.g = s.g <;> by_cases h2 : r.b = s.b <;> by_cases h3 : r.a = s.a <;> simp [h0, h1, h2, h3] <;> omega
  simp only [binOp]
  simp [Op.equal, Op.maxDepth, h 9997]

theorem same_dec (p q : Px) : sameP p q = decide (p = q) := by
  rw [Bool.eq_iff_iff, same_iff]
  simp

theorem take_more {l m : List Px} {j : Nat} {x : Px} (h : l.take j = m.take j) (hx : l[j]? = some x) (hy : m[j]? = some x) : l.take (j + 1) = m.take (j + 1) := by
  rw [List.take_add_one, List.take_add_one, h, hx, hy]


/-- the boxes of two buffers -/
abbrev WB (w : World) (a b : Int) (v : Value) (c d : Int) (u : Value) : World := (w.alloc (.cells #[.int .i64 a, .int .i64 b, v] 24)).alloc (.cells #[.int .i64 c, .int .i64 d, u] 24)

theorem heldB (w : World) (a b : Int) (v : Value) (c d : Int) (u : Value) : Held w (WB w a b v c d u) [(w.heap.size + 1, [.int .i64 c, .int .i64 d, u]), (w.heap.size, [.int .i64 a, .int .i64 b, v])] := by
  have h := ((Held.nil w).alloc [.int .i64 a, .int .i64 b, v] 24).alloc [.int .i64 c, .int .i64 d, u] 24
  rw [World.size_alloc] at h
  exact h

theorem eqB_a {a b c d : Int} (l m : List Px) (h : ¬ a = c) : eqB a b l c d m = false := by unfold eqB; rw [decide_eq_false h]; rfl
theorem eqB_b {a b c d : Int} (l m : List Px) (h : ¬ b = d) : eqB a b l c d m = false := by unfold eqB; rw [decide_eq_false h]; simp
theorem eqB_l (a b : Int) (l m : List Px) : eqB a b l a b m = decide (l = m) := by unfold eqB; simp
theorem eqB_self (a b : Int) (l : List Px) : eqB a b l a b l = true := by rw [eqB_l]; simp

set_option maxRecDepth 100000 in
set_option maxHeartbeats 4000000 in
theorem requal_any (a b c d : Int) {w : World} {v u : Value} {l m : List Px} (h : Pxs w v l) (hu : Pxs w u m) :
    Calls Try.prog 36 #[.agg #[.int .i64 a, .int .i64 b, v], .agg #[.int .i64 c, .int .i64 d, u]] w fun e w' => e = .returned (.bool (eqB a b l c d m)) ∧ Below w.heap.size w w' := by
  obtain ⟨A, cp, rfl, hc, hm, hcell⟩ := h
  obtain ⟨A', cp', rfl, hc', hm', hcell'⟩ := hu
  simp only [maxLen] at hm hm'
  have J := Lib.hid (heldB w a b (.slice A l.length cp) c d (.slice A' m.length cp'))
  by_cases h0 : a = c
  · subst h0
    by_cases h1 : b = d
    · subst h1
      rw [eqB_l]
      by_cases he : l.length = m.length
      · have HC := Lib.hid hcell
        have HC' := Lib.hid hcell'
        obtain ⟨len, hn⟩ : ∃ len, l.length = len := ⟨_, rfl⟩
        rw [← he, hn] at hc' J
        rw [← he, hn]
        rw [hn] at hc
        have HN := Lib.hid hn
        have HN' := Lib.hid (he.symm.trans hn)
        obtain ⟨res, hres⟩ : ∃ res, decide (l = m) = res := ⟨_, rfl⟩
        have HRES := Lib.hid hres
        rw [hres]
        clear hcell hcell' hn he hres
        go_enter Try.func36, Try.ntmps36
        go_wp2_with fail
        go_loopw [5] (fun k wr => ∃ (j : Nat), j ≤ len ∧ k = .int .i64 (j : Int) ∧ Hid (Held w wr [(w.heap.size + 1, [.int .i64 a, .int .i64 b, .slice A' len cp']), (w.heap.size, [.int .i64 a, .int .i64 b, .slice A len cp])] ∧ l.take j = m.take j)) (fun k _ => leftN len k)
        case atStart => exact ⟨0, by omega, rfl, J.out, by simp⟩
        case round =>
          obtain ⟨j, hj, rfl, hrel⟩ := hrel
          have HB := Lib.hid hrel.out.1
          obtain ⟨⟨y0, y1, y2, _, _⟩, ⟨z0, z1, z2, _, _⟩⟩ := And.intro (HB.out.tri (l1 := [])) (HB.out.tri (l1 := [_]))
          by_cases hlt : j < len
          · obtain ⟨x, hx⟩ : ∃ x, l[j]? = some x := ⟨_, List.getElem?_eq_getElem (by rw [HN.out]; exact hlt)⟩
            obtain ⟨y, hy⟩ : ∃ y, m[j]? = some y := ⟨_, List.getElem?_eq_getElem (by rw [HN'.out]; exact hlt)⟩
            obtain ⟨b1, off1, rfl, hb1, hcs⟩ := HC.out (by rw [HN.out]; omega)
            obtain ⟨b2, off2, rfl, hb2, hcs'⟩ := HC'.out (by rw [HN'.out]; omega)
            obtain ⟨t0, t1, t2, t3⟩ := (hcs j x hx).keep HB.out.below hb1
            obtain ⟨s0, s1, s2, s3⟩ := (hcs' j y hy).keep HB.out.below hb2
            have q0 : (j : Int) < len := by omega
            have q1 : (0 : Int) ≤ j := by omega
            have HX := Lib.hid hx
            have HY := Lib.hid hy
            clear hx hy hcs hcs'
            have E1 := fun W => neq_px x y W
            by_cases h1 : x = y
            · subst h1
              rw [same_dec, decide_eq_true rfl] at E1
              have HT := Lib.hid (take_more hrel.out.2 HX.out HY.out)
              simp only [Bool.not_true] at E1
              clear hrel HX HY
              go_wp2_with fail
              go_quiet (fail)
              go_wp2_with fail
              go_roundw
              case rel => exact ⟨j + 1, by omega, by go_num, Lib.hid ⟨HB.out.drews _, HT.out⟩⟩
              case measure =>
                unfold leftN
                simp [intOf]
                omega
            · rw [same_dec, decide_eq_false h1] at E1
              have HNE : Hid (l ≠ m) := Lib.hid (fun e => by
                have h2 := HX.out
                rw [e, HY.out] at h2
                exact h1 (Option.some.inj h2).symm)
              have e : res = false := by
                rw [← HRES.out]
                exact decide_eq_false HNE.out
              subst e
              clear h1
              simp only [Bool.not_false] at E1
              go_wp2_with fail
              go_quiet (fail)
              go_wp2_with fail
              go_ret
              exact ⟨rfl, below_draws HB.out.below _⟩
          · have q0 : ¬ (j : Int) < len := by omega
            have q1 : (len : Int) ≤ j := by omega
            have HE := hrel.out.2
            rw [List.take_of_length_le (by rw [HN.out]; omega), List.take_of_length_le (by rw [HN'.out]; omega)] at HE
            have e : res = true := by
              rw [← HRES.out]
              exact decide_eq_true HE
            clear HE hrel
            subst e
            go_wp2_with fail
            go_ret
            exact ⟨rfl, HB.out.below⟩
      · have e : decide (l = m) = false := decide_eq_false (fun e => he (by rw [e]))
        rw [e]
        obtain ⟨n1, h1⟩ : ∃ n, l.length = n := ⟨_, rfl⟩
        obtain ⟨n2, h2⟩ : ∃ n, m.length = n := ⟨_, rfl⟩
        rw [h1] at hc he J ⊢
        rw [h2] at hc' he J ⊢
        have q : ¬ (n1 : Int) = n2 := by omega
        clear h1 h2 hcell hcell' he e
        go_enter Try.func36, Try.ntmps36
        go_wp2_with fail
        go_ret
        exact ⟨rfl, J.out.below⟩
    · rw [eqB_b _ _ h1]
      clear hcell hcell'
      generalize l.length = n1 at *
      generalize m.length = n2 at *
      go_enter Try.func36, Try.ntmps36
      go_wp2_with fail
      go_ret
      exact ⟨rfl, J.out.below⟩
  · rw [eqB_a _ _ h0]
    clear hcell hcell'
    generalize l.length = n1 at *
    generalize m.length = n2 at *
    go_enter Try.func36, Try.ntmps36
    go_wp2_with fail
    go_ret
    exact ⟨rfl, J.out.below⟩

end Go.Proofs.Ytnkbejbpkjkgeaa
