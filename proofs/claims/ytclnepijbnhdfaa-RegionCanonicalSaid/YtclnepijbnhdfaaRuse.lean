/-
  usable, within and limited of the reference, and its list of the rows at which rectangles begin or end.
-/
import Derived.Test.YtclnepijbnhdfaaRins
import Derived.Test.YtclnepijbnhdfaaRs
import Derived.StillTailTactics
import Derived.Deep.RegionHeld3
namespace Go.Proofs.Ytclnepijbnhdfaa
open Go.RowKit

set_option maxHeartbeats 2000000 in
theorem usable_any (r : R) (w : World) : Calls Try.prog 41 #[.agg #[.int .i64 r.x0, .int .i64 r.y0, .int .i64 r.x1, .int .i64 r.y1]] w fun e w' => e = .returned (.bool (!empB r)) ∧ Below w.heap.size w w' := by
  obtain ⟨v, hv⟩ : ∃ v, (!empB r) = v := ⟨_, rfl⟩
  rw [hv]
  have hy := emp_yes r
  rcases (by omega : r.x0 < -16384 ∨ (-16384 ≤ r.x0 ∧ r.y0 < -16384) ∨ (-16384 ≤ r.x0 ∧ -16384 ≤ r.y0 ∧ 16384 < r.x1) ∨ (-16384 ≤ r.x0 ∧ -16384 ≤ r.y0 ∧ r.x1 ≤ 16384 ∧ 16384 < r.y1) ∨
    (-16384 ≤ r.x0 ∧ -16384 ≤ r.y0 ∧ r.x1 ≤ 16384 ∧ r.y1 ≤ 16384 ∧ r.x1 ≤ r.x0) ∨ (-16384 ≤ r.x0 ∧ -16384 ≤ r.y0 ∧ r.x1 ≤ 16384 ∧ r.y1 ≤ 16384 ∧ r.x0 < r.x1 ∧ r.y1 ≤ r.y0) ∨
    (-16384 ≤ r.x0 ∧ -16384 ≤ r.y0 ∧ r.x1 ≤ 16384 ∧ r.y1 ≤ 16384 ∧ r.x0 < r.x1 ∧ r.y0 < r.y1)) with h | ⟨h0, h⟩ | ⟨h0, h1, h⟩ | ⟨h0, h1, h2, h⟩ | ⟨h0, h1, h2, h3, h⟩ | ⟨h0, h1, h2, h3, h4, h⟩ | ⟨h0, h1, h2, h3, h4, h5⟩
  · rw [hy.2 (by omega)] at hv
    clear hy
    simp only [Bool.not_true] at hv
    subst hv
    go_enter Try.func41, Try.ntmps41
    go_wp2
    go_ret
    exact ⟨rfl, (Below.refl _ _).alloc (Nat.le_refl _) _⟩
  · rw [hy.2 (by omega)] at hv
    clear hy
    simp only [Bool.not_true] at hv
    subst hv
    go_enter Try.func41, Try.ntmps41
    go_wp2
    go_ret
    exact ⟨rfl, (Below.refl _ _).alloc (Nat.le_refl _) _⟩
  · rw [hy.2 (by omega)] at hv
    clear hy
    simp only [Bool.not_true] at hv
    subst hv
    go_enter Try.func41, Try.ntmps41
    go_wp2
    go_ret
    exact ⟨rfl, (Below.refl _ _).alloc (Nat.le_refl _) _⟩
  · rw [hy.2 (by omega)] at hv
    clear hy
    simp only [Bool.not_true] at hv
    subst hv
    go_enter Try.func41, Try.ntmps41
    go_wp2
    go_ret
    exact ⟨rfl, (Below.refl _ _).alloc (Nat.le_refl _) _⟩
  · rw [hy.2 (by omega)] at hv
    clear hy
    simp only [Bool.not_true] at hv
    subst hv
    go_enter Try.func41, Try.ntmps41
    go_wp2
    go_ret
    exact ⟨rfl, (Below.refl _ _).alloc (Nat.le_refl _) _⟩
  · rw [hy.2 (by omega)] at hv
    clear hy
    simp only [Bool.not_true] at hv
    subst hv
    go_enter Try.func41, Try.ntmps41
    go_wp2
    go_ret
    exact ⟨ret_bool (by simp; omega), (Below.refl _ _).alloc (Nat.le_refl _) _⟩
  · rw [(emp_no r).2 (by omega)] at hv
    clear hy
    simp only [Bool.not_false] at hv
    subst hv
    go_enter Try.func41, Try.ntmps41
    go_wp2
    go_ret
    exact ⟨rfl, (Below.refl _ _).alloc (Nat.le_refl _) _⟩

set_option maxHeartbeats 1000000 in
theorem within_any (n : Int) (w : World) : Calls Try.prog 49 #[.int .i64 n] w fun e w' => e = .returned (.int .i64 (max (-16384) (min 16384 n))) ∧ w = w' := by
  go_enter Try.func49, Try.ntmps49
  go_wp2
  go_ret
  exact ⟨ret_int (by simp), rfl⟩

set_option maxHeartbeats 1000000 in
theorem limited_any {w : World} {v : Value} {l : List R} (h : Rs w v l) : Calls Try.prog 35 #[v] w fun e w' => e = .returned (.tuple #[if l.length ≤ 256 then v else .slice none 0 0, .int .i64 (if l.length ≤ 256 then 0 else 5)]) ∧ w = w' := by
  obtain ⟨A, c, rfl, hc, hm, _⟩ := h
  simp only [maxLen] at hm
  obtain ⟨n, hn⟩ : ∃ n, l.length = n := ⟨_, rfl⟩
  rw [hn] at hc ⊢
  clear hn
  by_cases h1 : n ≤ 256
  · have q0 : (n : Int) ≤ 256 := by omega
    rw [if_pos h1, if_pos h1]
    go_enter Try.func35, Try.ntmps35
    go_wp2
    go_ret2
    exact ⟨rfl, rfl⟩
  · have q0 : (256 : Int) < n := by omega
    rw [if_neg h1, if_neg h1]
    go_enter Try.func35, Try.ntmps35
    go_wp2
    go_ret2
    exact ⟨rfl, rfl⟩

set_option maxRecDepth 100000 in
set_option maxHeartbeats 4000000 in
theorem rows_any {w : World} {v u : Value} {l : List R} {ys : List Int} (h : Rs w v l) (hu : Is w u ys) (hl : ys.length + 2 * l.length ≤ 900000) :
    Calls Try.prog 51 #[v, u] w fun e w' => ∃ t, e = .returned t ∧ Is w' t (rowsP l ys) ∧ Below w.heap.size w w' := by
  obtain ⟨A, c, rfl, hc, hm, hcell⟩ := h
  simp only [maxLen] at hm
  have HC := Lib.hid hcell
  obtain ⟨len, hn⟩ : ∃ len, l.length = len := ⟨_, rfl⟩
  have HN := Lib.hid hn
  have HLen := Lib.hid (rowsP_len l ys)
  rw [hn] at hc hl ⊢
  clear hcell hn
  go_enter Try.func51, Try.ntmps51
  go_wp2_with fail
  go_loopw [1, 5] (fun t k wr => ∃ (j : Nat) (zs : List Int), j ≤ len ∧ k = .int .i64 (j : Int) ∧ Hid (Is wr t zs ∧ Below w.heap.size w wr ∧ rowsP (l.drop j) zs = rowsP l ys ∧ zs.length ≤ ys.length + 2 * j)) (fun _ k _ => len - (intOf k).toNat)
  case atStart => exact ⟨0, ys, by omega, rfl, hu, Below.refl _ _, rfl, by omega⟩
  case round =>
    obtain ⟨j, zs, hj, rfl, hrel⟩ := hrel
    by_cases hlt : j < len
    · obtain ⟨x, hx⟩ : ∃ x, l[j]? = some x := ⟨_, List.getElem?_eq_getElem (by rw [HN.out]; exact hlt)⟩
      obtain ⟨b, off, rfl, hb, hcs⟩ := HC.out (by rw [HN.out]; omega)
      have T := Lib.hid (hcs j x hx)
      have HB := Lib.hid hrel.out.2.1
      have t0 := (HB.out.cell (p := ⟨b, off + j * 4, none⟩) hb).trans T.out.1
      have t1 := (HB.out.cell (p := ⟨b, off + j * 4 + 1, none⟩) hb).trans T.out.2.1
      have t2 := (HB.out.cell (p := ⟨b, off + j * 4 + 2, none⟩) hb).trans T.out.2.2.1
      have t3 := (HB.out.cell (p := ⟨b, off + j * 4 + 3, none⟩) hb).trans T.out.2.2.2
      have HD := Lib.hid (drop_at hx)
      have q0 : (j : Int) < len := by omega
      have q1 : (0 : Int) ≤ j := by omega
      have hbr : b < wr.heap.size := Nat.lt_of_lt_of_le hb HB.out.size
      have C1 := fun W => Lib.hid (usable_any x W)
      clear hx hcs
      cases he : empB x
      · rw [he] at C1
        have HE := Lib.hid he
        clear he
        go_wp2_with fail
        refine (C1 _).out.mono ?_
        rintro e w1 ⟨rfl, hb1⟩
        replace t0 := (hb1.cell (p := ⟨b, off + j * 4, none⟩) hbr).trans t0
        replace t1 := (hb1.cell (p := ⟨b, off + j * 4 + 1, none⟩) hbr).trans t1
        replace t2 := (hb1.cell (p := ⟨b, off + j * 4 + 2, none⟩) hbr).trans t2
        replace t3 := (hb1.cell (p := ⟨b, off + j * 4 + 3, none⟩) hbr).trans t3
        have hbr1 : b < w1.heap.size := Nat.lt_of_lt_of_le hbr hb1.size
        have HB1 := Lib.hid (HB.out.trans (hb1.mono HB.out.size))
        have HI1 := Lib.hid (hrel.out.1.below hb1)
        have hz := hrel.out.2.2.2
        clear hb1 C1
        go_wp2_with fail
        replace HI1 := Lib.hid (show Is w1.drew u1 zs from HI1.out)
        replace HB1 := Lib.hid HB1.out.drew
        have tok1 : True := trivial
        go_region_held3 (fun W => W.cell? ⟨b, off + j * 4 + 1, none⟩ = some (.int .i64 x.y0) ∧ W.cell? ⟨b, off + j * 4 + 3, none⟩ = some (.int .i64 x.y1))
          (first
            | go_keep
            | exact sk)
          (first
            | (go_at_call 68; have _t := tok1; (with_reducible refine (insert_any HI1.out x.y0 (by omega)).mono ?_); rintro e w2 ⟨t2, rfl, ho2, hb2⟩; have sk := And.intro ((hb2.cell (p := ⟨b, off + j * 4 + 1, none⟩) hbr1).trans t1) ((hb2.cell (p := ⟨b, off + j * 4 + 3, none⟩) hbr1).trans t3); replace HI1 := Lib.hid ho2.is; have hbr2 : b < w2.heap.size := Nat.lt_of_lt_of_le hbr1 hb2.size; replace HB1 := Lib.hid (HB1.out.trans (hb2.mono HB1.out.size)); have hl2 := insP_len x.y0 zs; clear tok1 ho2 hb2)
            | (go_at_call 68; (with_reducible refine (insert_any HI1.out x.y1 (by omega)).mono ?_); rintro e w3 ⟨t3, rfl, ho3, hb3⟩; have sk' := And.intro ((hb3.cell (p := ⟨b, off + j * 4 + 1, none⟩) hbr2).trans sk.1) ((hb3.cell (p := ⟨b, off + j * 4 + 3, none⟩) hbr2).trans sk.2); clear sk; have sk := sk'; clear sk'; replace HI1 := Lib.hid ho3.is; replace HB1 := Lib.hid (HB1.out.trans (hb3.mono HB1.out.size)); clear ho3 hb3)
            | fail)
        all_goals
          clear HLen sk
          go_wp2_with fail
          go_roundw
          case rel => exact ⟨j + 1, insP x.y1 (insP x.y0 zs), by omega, by go_num, HI1.out, HB1.out, by rw [← hrel.out.2.2.1, HD.out]; simp [rowsP, HE.out], by have := insP_len x.y1 (insP x.y0 zs); omega⟩
          case measure => simp [intOf]; omega
      · rw [he] at C1
        have HE := Lib.hid he
        clear he
        go_wp2_with fail
        refine (C1 _).out.mono ?_
        rintro e w1 ⟨rfl, hb1⟩
        have HB1 := Lib.hid (HB.out.trans (hb1.mono HB.out.size))
        have HI1 := Lib.hid (hrel.out.1.below hb1)
        clear hb1 C1 t0 t1 t2 t3
        go_wp2_with fail
        go_roundw
        case rel => exact ⟨j + 1, zs, by omega, by go_num, HI1.out, HB1.out, by rw [← hrel.out.2.2.1, HD.out]; simp [rowsP, HE.out], by have := hrel.out.2.2.2; omega⟩
        case measure => simp [intOf]; omega
    · have q0 : (len : Int) ≤ (j : Int) := by omega
      have HDn := Lib.hid (show l.drop j = [] from List.drop_eq_nil_of_le (by rw [HN.out]; omega))
      go_wp2_with fail
      go_ret
      refine ⟨_, rfl, ?_, hrel.out.2.1⟩
      have e := hrel.out.2.2.1
      rw [HDn.out] at e
      rw [← e]
      exact hrel.out.1

end Go.Proofs.Ytclnepijbnhdfaa
