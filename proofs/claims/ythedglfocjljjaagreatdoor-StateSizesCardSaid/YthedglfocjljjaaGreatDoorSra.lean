/-
  The reference's state: sides, wide, copied, Initial.
-/
import Derived.Test.YthedglfocjljjaaGreatDoorSme
import Derived.Test.YthedglfocjljjaaGreatDoorRoe
namespace Go.Proofs.YthedglfocjljjaaGreatDoor
open Go.RowKit

set_option maxRecDepth 100000 in
theorem sides_any (x y : Int) (w : World) : Calls Tryz.prog 43 #[.agg #[.int .i64 x, .int .i64 y]] w fun e w' => e = .returned (.bool (sidB x y)) ∧ Below w.heap.size w w' := by
  have J := Lib.hid ((HO.nil w).alloc [.int .i64 x, .int .i64 y] 25)
  unfold sidB
  by_cases h0 : x = 0 ∧ y = 0
  · obtain ⟨rfl, rfl⟩ := h0
    go_enter Tryz.func43, Tryz.ntmps43
    go_wp2_with fail
    go_ret
    exact ⟨rfl, J.out.below⟩
  · have e0 : (x == 0 && y == 0) = false := by
      simp only [Bool.and_eq_false_iff, beq_eq_false_iff_ne]
      omega
    have e1 : (decide (x = 0) && decide (y = 0)) = false := by
      simp only [Bool.and_eq_false_iff, decide_eq_false_iff_not]
      omega
    rw [e1, Bool.false_or]
    clear e1 h0
    by_cases h1 : 1 ≤ x
    · by_cases h2 : x ≤ 256
      · by_cases h3 : 1 ≤ y
        · by_cases h4 : y ≤ 256
          · rw [decide_eq_true h1, decide_eq_true h2, decide_eq_true h3, decide_eq_true h4]
            go_enter Tryz.func43, Tryz.ntmps43
            go_wp2_with fail
            go_ret
            exact ⟨rfl, J.out.below⟩
          · rw [decide_eq_false h4, Bool.and_false, Bool.and_false]
            go_enter Tryz.func43, Tryz.ntmps43
            go_wp2_with fail
            go_ret
            exact ⟨rfl, J.out.below⟩
        · rw [decide_eq_false h3, Bool.false_and, Bool.and_false]
          go_enter Tryz.func43, Tryz.ntmps43
          go_wp2_with fail
          go_ret
          exact ⟨rfl, J.out.below⟩
      · rw [decide_eq_false h2, Bool.and_false, Bool.false_and]
        go_enter Tryz.func43, Tryz.ntmps43
        go_wp2_with fail
        go_ret
        exact ⟨rfl, J.out.below⟩
    · rw [decide_eq_false h1, Bool.false_and, Bool.false_and]
      by_cases hx : x = 0
      · have hy : (y == 0) = false := by
          subst hx
          simpa using e0
        subst hx
        clear e0
        go_enter Tryz.func43, Tryz.ntmps43
        go_wp2_with fail
        go_ret
        exact ⟨rfl, J.out.below⟩
      · have hy : (x == 0) = false := by simpa using hx
        clear e0
        go_enter Tryz.func43, Tryz.ntmps43
        go_wp2_with fail
        go_ret
        exact ⟨rfl, J.out.below⟩

theorem rgn_rs {W : World} {v : Value} {l : List R} (h : Rs W v l) : Rgn.Rs W v l := h
set_option maxRecDepth 100000 in
theorem wide_any {w : World} {v : Value} {l : List R} (h : Rs w v l) (hl : l.length ≤ 500) : Calls Tryz.prog 44 #[v] w fun e w' => e = .returned (.bool (wideB l)) ∧ Below w.heap.size w w' := by
  have C := Lib.hid (Rgn.rnew_any (rgn_rs h) hl)
  obtain ⟨A, c, rfl, h1, h2⟩ := h.shape
  simp only [maxLen] at h2
  unfold wideB
  generalize l.length = n at *
  unfold Rgn.Lim at C
  by_cases hw : (Rgn.combP (fun x y => x || y) l []).length ≤ 256
  · rw [if_pos hw] at C
    rw [decide_eq_false (by unfold canS; omega)]
    clear h hw
    go_enter Tryz.func44, Tryz.ntmps44
    go_wp2_with fail
    refine C.out.mono ?_
    rintro e w1 ⟨t, rfl, -, hb⟩
    have HB := Lib.hid hb
    clear C hb
    go_wp2_with fail
    go_ret
    exact ⟨rfl, HB.out⟩
  · rw [if_neg hw] at C
    rw [decide_eq_true (by unfold canS; omega)]
    clear h hw
    go_enter Tryz.func44, Tryz.ntmps44
    go_wp2_with fail
    refine C.out.mono ?_
    rintro e w1 ⟨t, rfl, -, hb⟩
    have HB := Lib.hid hb
    clear C hb
    go_wp2_with fail
    go_ret
    exact ⟨rfl, HB.out⟩

set_option maxRecDepth 100000 in
theorem rowPx : RowTy 40 58 4 4 := ⟨Tryz.underlying40, by
  obtain ⟨i, hi, hz, hs, hb⟩ := info_parts px_info
  exact ⟨i, _, hi, hz, hs, hb, rfl⟩, by decide, by decide⟩
set_option maxRecDepth 100000 in
theorem rowRc : RowTy 23 53 4 32 := ⟨Tryz.underlying23, by
  obtain ⟨i, hi, hz, hs, hb⟩ := info_parts rect_info
  exact ⟨i, _, hi, hz, hs, hb, rfl⟩, by decide, by decide⟩

theorem own_empty (w : World) {base : Nat} (hb : base ≤ w.heap.size) (e : TypeId) (size : Nat) : (w.alloc (.cells #[] e)).ownsRow base e size (.slice (some ⟨w.heap.size, 0, none⟩) 0 0) 0 [] := by
  refine ⟨by simp, .inr ⟨w.heap.size, 0, _, rfl, hb, heap_alloc_new w _, Nat.le_refl _, by simp [maxLen], by simp, by simp⟩⟩
def Cpd (w : World) (p : Bv) (e : Ending) (w' : World) : Prop := ∃ r, e = .returned (bfV (p.1, r)) ∧ w'.ownsRow w.heap.size 58 4 r p.1.l.length (flat p.1.l) ∧ Below w.heap.size w w'
set_option maxRecDepth 100000 in
set_option maxHeartbeats 2000000 in
theorem copied_any {w : World} {p : Bv} (h : Pxs w p.2 p.1.l) (hl : p.1.l.length ≤ 100000) : Calls Tryz.prog 65 #[bfV p] w (Cpd w p) := by
  obtain ⟨⟨a, b, l⟩, v⟩ := p
  dsimp only at h hl ⊢
  have HS := fun (W : World) (hb : Below w.heap.size w W) => Lib.hid ((pxs_sn h).below hb)
  have HL := Lib.hid hl
  have HO1 := Lib.hid (oneCell_flat l)
  have HLN := Lib.hid (flat_length l)
  obtain ⟨A, c, rfl, h1, h2⟩ := h.shape
  simp only [maxLen] at h2
  unfold Cpd
  dsimp only
  generalize flat l = fl at *
  generalize l.length = n at *
  have J0 := Lib.hid (show HO w ((w.alloc (.cells #[.int .i64 a, .int .i64 b, .slice A n c] 42)).alloc (.cells #[.int .i64 0, .int .i64 0, .slice none 0 0] 42)) [boxO (w.heap.size + 1) [.int .i64 0, .int .i64 0, .slice none 0 0], boxO w.heap.size [.int .i64 a, .int .i64 b, .slice A n c]] from by
    have h := ((HO.nil w).alloc [.int .i64 a, .int .i64 b, .slice A n c] 42).alloc [.int .i64 0, .int .i64 0, .slice none 0 0] 42
    rw [World.size_alloc] at h
    exact h)
  clear h
  go_enter Tryz.func65, Tryz.ntmps65
  go_wp2_with fail
  have J := Lib.hid (J0.out.drew)
  obtain ⟨x0, x1, x2, xf, xl⟩ := (show HO w _ ([_] ++ boxO w.heap.size _ :: []) from J.out).c3
  have sk := And.intro x0 (And.intro x1 x2)
  have J2 := Lib.hid (J.out.made (.cells #[] 58))
  have OW : Hid (((((w.alloc (.cells #[.int .i64 a, .int .i64 b, .slice A n c] 42)).alloc (.cells #[.int .i64 0, .int .i64 0, .slice none 0 0] 42)).alloc (.cells #[] 58)).drew).ownsRow w.heap.size 58 4 (.slice (some ⟨w.heap.size + 1 + 1, 0, none⟩) 0 0) 0 []) := Lib.hid (by
    have h := own_empty ((w.alloc (.cells #[.int .i64 a, .int .i64 b, .slice A n c] 42)).alloc (.cells #[.int .i64 0, .int .i64 0, .slice none 0 0] 42)).drew (base := w.heap.size) J.out.below.size 58 4
    have e : ((w.alloc (.cells #[.int .i64 a, .int .i64 b, .slice A n c] 42)).alloc (.cells #[.int .i64 0, .int .i64 0, .slice none 0 0] 42)).drew.heap.size = w.heap.size + 1 + 1 := by simp
    rw [e] at h
    exact h)
  have J4 := Lib.hid (J.out.rowB (W' := ((((w.alloc (.cells #[.int .i64 a, .int .i64 b, .slice A n c] 42)).alloc (.cells #[.int .i64 0, .int .i64 0, .slice none 0 0] 42)).alloc (.cells #[] 58)).drew)) ((Below.refl _ _).alloc (Nat.le_refl _) _) OW.out (fun k hk => by injection hk with hk; subst hk; simp))
  go_region_held3 (fun W => W.cell? ⟨w.heap.size, 0, none⟩ = some (.int .i64 a) ∧ W.cell? ⟨w.heap.size, 1, none⟩ = some (.int .i64 b) ∧ W.cell? ⟨w.heap.size, 2, none⟩ = some (.slice A n c))
    (first
      | exact sk
      | exact sk2
      | exact sk3
      | go_keep)
    (first
      | (refine step_appO (by rfl) rowPx _ _ (by rfl) (base := w.heap.size) (n := 0) (xs := []) (by rfl) (by exact OW.out) (by rfl) (by exact (HS _ J2.out.below).out) (by exact HO1.out) (by have := HL.out; omega) (by exact J2.out.below.size) ?_; intro v6 w6 ho6 hg6 hw6; rw [Nat.zero_add, List.nil_append] at ho6; obtain ⟨A6, c6, hv6, -, -⟩ := (sn_owned ho6 HLN.out).shape; subst hv6; have J3 := Lib.hid ((show HO w _ ([] ++ rowO w.heap.size 58 4 _ 0 [] :: [_, _]) from J4.out).grow ho6 hg6 hw6); obtain ⟨y0, y1, y2, yf, yl⟩ := (show HO w w6 ([_, _] ++ boxO w.heap.size _ :: []) from J3.out).c3; have sk2 := And.intro y0 (And.intro y1 y2); obtain ⟨z0, z1, z2, zf, zl⟩ := (show HO w w6 ([_] ++ boxO (w.heap.size + 1) _ :: [_]) from J3.out).c3; have J5 := Lib.hid ((show HO w w6 ([_] ++ boxO (w.heap.size + 1) [_, _, _] :: [_]) from J3.out).set3 (.int .i64 a) (.int .i64 b) (.slice A6 n c6)); obtain ⟨t0, t1, t2, -, -⟩ := (show HO w _ ([_, _] ++ boxO w.heap.size _ :: []) from J5.out).c3; have sk3 := And.intro t0 (And.intro t1 t2); clear hg6 hw6)
      | fail)
  have hR := (show HO w _ ([] ++ rowO w.heap.size 58 4 _ n fl :: _) from J5.out).at
  have HR := Lib.hid hR
  obtain ⟨z0, z1, z2, zf, zl⟩ := (show HO w _ ([_] ++ boxO (w.heap.size + 1) _ :: [_]) from J5.out).c3
  go_wp2_with fail
  exact bodyPost_ret (v := bfV (⟨a, b, l⟩, .slice A6 n c6)) (by simp [results, Tryz.results65, go_sem, z0, z1, z2]) rfl ⟨_, rfl, HR.out, J5.out.below⟩

end Go.Proofs.YthedglfocjljjaaGreatDoor
