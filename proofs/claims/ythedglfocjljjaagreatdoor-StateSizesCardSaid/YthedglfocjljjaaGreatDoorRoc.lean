/-
  insert of the reference: the number's place in a list without duplicates.
-/
import Derived.Test.YthedglfocjljjaaGreatDoorRob
import Derived.Deep.QuietTactic
import Derived.BigQuiet
import Derived.StillTailTactics
import Derived.Deep.RegionHeld3
import Derived.IntWalk
namespace Go.Proofs.YthedglfocjljjaaGreatDoor.Rgn
open Go.RowKit

def InsRel (n : Int) (l : List Int) (w wr : World) (out : Value) (j : Nat) (d : Bool) (acc : List Int) : Prop :=
  wr.ownsRow w.heap.size 3 1 out acc.length (ints acc) ∧ Below w.heap.size w wr ∧ acc ++ (if d then l.drop j else insP n (l.drop j)) = insP n l

theorem InsRel.len {n : Int} {l : List Int} {w wr : World} {out : Value} {j : Nat} {d : Bool} {acc : List Int} (h : InsRel n l w wr out j d acc) : acc.length ≤ l.length + 1 := by
  have := congrArg List.length h.2.2
  have h2 := insP_len n l
  rw [List.length_append] at this
  omega

theorem ints_snoc {w1 : World} {base : Nat} {v : Value} {acc : List Int} {x : Int} (h : w1.ownsRow base 3 1 v (acc.length + 1) (ints acc ++ [.int .i64 x])) : w1.ownsRow base 3 1 v (acc ++ [x]).length (ints (acc ++ [x])) := by
  simpa [ints] using h

set_option maxRecDepth 100000 in
set_option maxHeartbeats 2000000 in
theorem insert_any {w : World} {v : Value} {l : List Int} (h : Is w v l) (n : Int) (hl : l.length ≤ 1000000) :
    Calls Tryz.prog 110 #[v, .int .i64 n] w fun e w' => ∃ u, e = .returned u ∧ OwnI w' w.heap.size u (insP n l) ∧ Below w.heap.size w w' := by
  obtain ⟨i0, hi, hz0, hz1, hz2⟩ := info_parts int_info
  obtain ⟨A, c, rfl, hc, hm, hcell⟩ := h
  simp only [maxLen] at hm
  have HC := Lib.hid hcell
  obtain ⟨len, hn⟩ : ∃ len, l.length = len := ⟨_, rfl⟩
  have HN := Lib.hid hn
  rw [hn] at hc hl ⊢
  clear hcell hn
  go_enter Tryz.func110, Tryz.ntmps110
  go_wp2_with fail
  go_loopw [5, 6, 7] (fun out dn k wr => ∃ (j : Nat) (d : Bool) (acc : List Int), j ≤ len ∧ k = .int .i64 (j : Int) ∧ dn = .bool d ∧ Hid (InsRel n l w wr out j d acc)) (fun _ _ k _ => len - (RowKit.intOf k).toNat)
  case atStart => exact ⟨0, false, [], by omega, rfl, rfl, World.ownsRow_nil _ _ _ _, Below.refl _ _, by simp⟩
  case round =>
    obtain ⟨j, d, acc, hj, rfl, rfl, hrel⟩ := hrel
    have hal := hrel.out.len
    rw [HN.out] at hal
    by_cases hlt : j < len
    · obtain ⟨x, hx⟩ : ∃ x, l[j]? = some x := ⟨_, List.getElem?_eq_getElem (by rw [HN.out]; exact hlt)⟩
      obtain ⟨b, off, rfl, hb, hcs⟩ := HC.out (by rw [HN.out]; omega)
      have T := Lib.hid (hcs j x hx)
      have t0 := (hrel.out.2.1.cell (p := ⟨b, off + j, none⟩) hb).trans T.out
      have HD := Lib.hid (drop_at hx)
      have q0 : (j : Int) < len := by omega
      have q1 : (0 : Int) ≤ j := by omega
      have hsz := hrel.out.2.1.size
      have HR := hrel.out.1
      have HB := Lib.hid hrel.out.2.1
      have HE := Lib.hid hrel.out.2.2
      clear hx hcs
      cases d
      · by_cases h1 : n ≤ x
        · by_cases h2 : n < x
          · have HG := Lib.hid (show insP n (x :: l.drop (j + 1)) = n :: x :: l.drop (j + 1) by simp [insP, h1, h2])
            go_wp2_with (first
              | (at_builtin; have _t := HR; refine wpList_append_own _ rfl _ _ 94 rfl w.heap.size 3 i0 _ 1 8 Tryz.underlying94 hi hz0 hz1 hz2 rfl (by decide) _ _ _ rfl (HR.alloc _) ⟨_, 0, none⟩ 1 1 [.int .i64 n] rfl rfl (cell_one_new _ _ _) (by simp [Value.oneCell']) (by unfold maxLen; omega) (by omega) (by simp; omega) ?_; intro v1 w1 ho1 hg1 _; have hr1 := ints_snoc ho1; have HB1 := Lib.hid (below_grown HB.out HB.out.size (Nat.le_refl _) HR hg1); have hs1 := HB1.out.size; have hl1 : (acc ++ [n]).length ≤ 1000003 := (by simp; omega); have t1 := (HB1.out.cell (p := ⟨b, off + j, none⟩) hb).trans T.out; clear HR ho1 hg1)
              | (at_builtin; have _t := hr1; refine wpList_append_own _ rfl _ _ 94 rfl w.heap.size 3 i0 _ 1 8 Tryz.underlying94 hi hz0 hz1 hz2 rfl (by decide) _ _ _ rfl (hr1.alloc _) ⟨_, 0, none⟩ 1 1 [.int .i64 x] rfl rfl (cell_one_new _ _ _) (by simp [Value.oneCell']) (by unfold maxLen; omega) (by omega) (by simp; omega) ?_; intro v2 w2 ho2 hg2 _; have hr2 := ints_snoc ho2; have HB2 := Lib.hid (below_grown HB1.out HB1.out.size (Nat.le_refl _) hr1 hg2); have hs2 := HB2.out.size; have hl2 : (acc ++ [n] ++ [x]).length ≤ 1000003 := (by simp; omega); clear hr1 ho2 hg2)
              | go_in)
            go_roundw
            case rel => exact ⟨j + 1, true, acc ++ [n] ++ [x], by omega, by go_num, rfl, hr2, HB2.out, by rw [← HE.out, HD.out]; simp only [Bool.false_eq_true, if_false]; rw [HG.out]; simp⟩
            case measure => simp [RowKit.intOf]; omega
          · have h3 : x ≤ n := by omega
            have HG := Lib.hid (show insP n (x :: l.drop (j + 1)) = x :: l.drop (j + 1) by simp [insP, h1, h2])
            go_wp2_with (first
              | (at_builtin; have _t := HR; refine wpList_append_own _ rfl _ _ 94 rfl w.heap.size 3 i0 _ 1 8 Tryz.underlying94 hi hz0 hz1 hz2 rfl (by decide) _ _ _ rfl (HR.alloc _) ⟨_, 0, none⟩ 1 1 [.int .i64 x] rfl rfl (cell_one_new _ _ _) (by simp [Value.oneCell']) (by unfold maxLen; omega) (by omega) (by simp; omega) ?_; intro v1 w1 ho1 hg1 _; have hr1 := ints_snoc ho1; have HB1 := Lib.hid (below_grown HB.out HB.out.size (Nat.le_refl _) HR hg1); have hs1 := HB1.out.size; have hl1 : (acc ++ [x]).length ≤ 1000003 := (by simp; omega); clear HR ho1 hg1)
              | go_in)
            go_roundw
            case rel => exact ⟨j + 1, true, acc ++ [x], by omega, by go_num, rfl, hr1, HB1.out, by rw [← HE.out, HD.out]; simp only [Bool.false_eq_true, if_false]; rw [HG.out]; simp⟩
            case measure => simp [RowKit.intOf]; omega
        · have h3 : x < n := by omega
          have HG := Lib.hid (show insP n (x :: l.drop (j + 1)) = x :: insP n (l.drop (j + 1)) by simp [insP, h1])
          go_wp2_with (first
            | (at_builtin; have _t := HR; refine wpList_append_own _ rfl _ _ 94 rfl w.heap.size 3 i0 _ 1 8 Tryz.underlying94 hi hz0 hz1 hz2 rfl (by decide) _ _ _ rfl (HR.alloc _) ⟨_, 0, none⟩ 1 1 [.int .i64 x] rfl rfl (cell_one_new _ _ _) (by simp [Value.oneCell']) (by unfold maxLen; omega) (by omega) (by simp; omega) ?_; intro v1 w1 ho1 hg1 _; have hr1 := ints_snoc ho1; have HB1 := Lib.hid (below_grown HB.out HB.out.size (Nat.le_refl _) HR hg1); have hs1 := HB1.out.size; have hl1 : (acc ++ [x]).length ≤ 1000003 := (by simp; omega); clear HR ho1 hg1)
            | go_in)
          go_roundw
          case rel => exact ⟨j + 1, false, acc ++ [x], by omega, by go_num, rfl, hr1, HB1.out, by rw [← HE.out, HD.out]; simp only [Bool.false_eq_true, if_false]; rw [HG.out]; simp⟩
          case measure => simp [RowKit.intOf]; omega
      · skip
        go_wp2_with (first
          | (at_builtin; have _t := HR; refine wpList_append_own _ rfl _ _ 94 rfl w.heap.size 3 i0 _ 1 8 Tryz.underlying94 hi hz0 hz1 hz2 rfl (by decide) _ _ _ rfl (HR.alloc _) ⟨_, 0, none⟩ 1 1 [.int .i64 x] rfl rfl (cell_one_new _ _ _) (by simp [Value.oneCell']) (by unfold maxLen; omega) (by omega) (by simp; omega) ?_; intro v1 w1 ho1 hg1 _; have hr1 := ints_snoc ho1; have HB1 := Lib.hid (below_grown HB.out HB.out.size (Nat.le_refl _) HR hg1); have hs1 := HB1.out.size; have hl1 : (acc ++ [x]).length ≤ 1000003 := (by simp; omega); clear HR ho1 hg1)
          | go_in)
        go_roundw
        case rel => exact ⟨j + 1, true, acc ++ [x], by omega, by go_num, rfl, hr1, HB1.out, by rw [← HE.out, HD.out]; simp⟩
        case measure => simp [RowKit.intOf]; omega
    · have q0 : (len : Int) ≤ (j : Int) := by omega
      have HR := hrel.out.1
      have HB := Lib.hid hrel.out.2.1
      have hsz := hrel.out.2.1.size
      have HE := Lib.hid hrel.out.2.2
      have HDn := Lib.hid (show l.drop j = [] from List.drop_eq_nil_of_le (by rw [HN.out]; omega))
      cases d
      · go_wp2_with (first
          | (at_builtin; have _t := HR; refine wpList_append_own _ rfl _ _ 94 rfl w.heap.size 3 i0 _ 1 8 Tryz.underlying94 hi hz0 hz1 hz2 rfl (by decide) _ _ _ rfl (HR.alloc _) ⟨_, 0, none⟩ 1 1 [.int .i64 n] rfl rfl (cell_one_new _ _ _) (by simp [Value.oneCell']) (by unfold maxLen; omega) (by omega) (by simp; omega) ?_; intro v1 w1 ho1 hg1 _; have hr1 := ints_snoc ho1; have HB1 := Lib.hid (below_grown HB.out HB.out.size (Nat.le_refl _) HR hg1); have hs1 := HB1.out.size; have hl1 : (acc ++ [n]).length ≤ 1000003 := (by simp; omega); clear HR ho1 hg1)
          | go_in)
        go_ret
        refine ⟨_, rfl, ?_, HB1.out⟩
        have e : insP n l = acc ++ [n] := by rw [← HE.out, HDn.out]; rfl
        rw [e]
        exact hr1
      · go_wp2_with fail
        go_ret
        refine ⟨_, rfl, ?_, HB.out⟩
        have e : insP n l = acc := by rw [← HE.out, HDn.out]; simp
        rw [e]
        exact HR

set_option maxRecDepth 100000 in
set_option maxHeartbeats 2000000 in
theorem usable_any (r : R) (w : World) : Calls Tryz.prog 109 #[.agg #[.int .i64 r.x0, .int .i64 r.y0, .int .i64 r.x1, .int .i64 r.y1]] w fun e w' => e = .returned (.bool (!empB r)) ∧ Below w.heap.size w w' := by
  obtain ⟨v, hv⟩ : ∃ v, (!empB r) = v := ⟨_, rfl⟩
  rw [hv]
  have hy := emp_yes r
  rcases (by omega : r.x0 < -16384 ∨ (-16384 ≤ r.x0 ∧ r.y0 < -16384) ∨ (-16384 ≤ r.x0 ∧ -16384 ≤ r.y0 ∧ 16384 < r.x1) ∨ (-16384 ≤ r.x0 ∧ -16384 ≤ r.y0 ∧ r.x1 ≤ 16384 ∧ 16384 < r.y1) ∨
    (-16384 ≤ r.x0 ∧ -16384 ≤ r.y0 ∧ r.x1 ≤ 16384 ∧ r.y1 ≤ 16384 ∧ r.x1 ≤ r.x0) ∨ (-16384 ≤ r.x0 ∧ -16384 ≤ r.y0 ∧ r.x1 ≤ 16384 ∧ r.y1 ≤ 16384 ∧ r.x0 < r.x1 ∧ r.y1 ≤ r.y0) ∨
    (-16384 ≤ r.x0 ∧ -16384 ≤ r.y0 ∧ r.x1 ≤ 16384 ∧ r.y1 ≤ 16384 ∧ r.x0 < r.x1 ∧ r.y0 < r.y1)) with h | ⟨h0, h⟩ | ⟨h0, h1, h⟩ | ⟨h0, h1, h2, h⟩ | ⟨h0, h1, h2, h3, h⟩ | ⟨h0, h1, h2, h3, h4, h⟩ | ⟨h0, h1, h2, h3, h4, h5⟩
  · rw [hy.2 (by omega)] at hv
    clear hy
    simp only [Bool.not_true] at hv
    subst hv
    go_enter Tryz.func109, Tryz.ntmps109
    go_wp2
    go_ret
    exact ⟨rfl, (Below.refl _ _).alloc (Nat.le_refl _) _⟩
  · rw [hy.2 (by omega)] at hv
    clear hy
    simp only [Bool.not_true] at hv
    subst hv
    go_enter Tryz.func109, Tryz.ntmps109
    go_wp2
    go_ret
    exact ⟨rfl, (Below.refl _ _).alloc (Nat.le_refl _) _⟩
  · rw [hy.2 (by omega)] at hv
    clear hy
    simp only [Bool.not_true] at hv
    subst hv
    go_enter Tryz.func109, Tryz.ntmps109
    go_wp2
    go_ret
    exact ⟨rfl, (Below.refl _ _).alloc (Nat.le_refl _) _⟩
  · rw [hy.2 (by omega)] at hv
    clear hy
    simp only [Bool.not_true] at hv
    subst hv
    go_enter Tryz.func109, Tryz.ntmps109
    go_wp2
    go_ret
    exact ⟨rfl, (Below.refl _ _).alloc (Nat.le_refl _) _⟩
  · rw [hy.2 (by omega)] at hv
    clear hy
    simp only [Bool.not_true] at hv
    subst hv
    go_enter Tryz.func109, Tryz.ntmps109
    go_wp2
    go_ret
    exact ⟨rfl, (Below.refl _ _).alloc (Nat.le_refl _) _⟩
  · rw [hy.2 (by omega)] at hv
    clear hy
    simp only [Bool.not_true] at hv
    subst hv
    go_enter Tryz.func109, Tryz.ntmps109
    go_wp2
    go_ret
    exact ⟨ret_bool (by simp; omega), (Below.refl _ _).alloc (Nat.le_refl _) _⟩
  · rw [(emp_no r).2 (by omega)] at hv
    clear hy
    simp only [Bool.not_false] at hv
    subst hv
    go_enter Tryz.func109, Tryz.ntmps109
    go_wp2
    go_ret
    exact ⟨rfl, (Below.refl _ _).alloc (Nat.le_refl _) _⟩

set_option maxRecDepth 100000 in
set_option maxHeartbeats 1000000 in
theorem limited_any {w : World} {v : Value} {l : List R} (h : Rs w v l) : Calls Tryz.prog 64 #[v] w fun e w' => e = .returned (.tuple #[if l.length ≤ 256 then v else .slice none 0 0, .int .i64 (if l.length ≤ 256 then 0 else 5)]) ∧ w = w' := by
  obtain ⟨A, c, rfl, hc, hm, _⟩ := h
  simp only [maxLen] at hm
  obtain ⟨n, hn⟩ : ∃ n, l.length = n := ⟨_, rfl⟩
  rw [hn] at hc ⊢
  clear hn
  by_cases h1 : n ≤ 256
  · have q0 : (n : Int) ≤ 256 := by omega
    rw [if_pos h1, if_pos h1]
    go_enter Tryz.func64, Tryz.ntmps64
    go_wp2
    go_ret2
    exact ⟨rfl, rfl⟩
  · have q0 : (256 : Int) < n := by omega
    rw [if_neg h1, if_neg h1]
    go_enter Tryz.func64, Tryz.ntmps64
    go_wp2
    go_ret2
    exact ⟨rfl, rfl⟩

set_option maxRecDepth 100000 in
set_option maxHeartbeats 4000000 in
theorem rows_any {w : World} {v u : Value} {l : List R} {ys : List Int} (h : Rs w v l) (hu : Is w u ys) (hl : ys.length + 2 * l.length ≤ 900000) :
    Calls Tryz.prog 95 #[v, u] w fun e w' => ∃ t, e = .returned t ∧ Is w' t (rowsP l ys) ∧ Below w.heap.size w w' := by
  obtain ⟨A, c, rfl, hc, hm, hcell⟩ := h
  simp only [maxLen] at hm
  have HC := Lib.hid hcell
  obtain ⟨len, hn⟩ : ∃ len, l.length = len := ⟨_, rfl⟩
  have HN := Lib.hid hn
  have HLen := Lib.hid (rowsP_len l ys)
  rw [hn] at hc hl ⊢
  clear hcell hn
  go_enter Tryz.func95, Tryz.ntmps95
  go_wp2_with fail
  go_loopw [1, 5] (fun t k wr => ∃ (j : Nat) (zs : List Int), j ≤ len ∧ k = .int .i64 (j : Int) ∧ Hid (Is wr t zs ∧ Below w.heap.size w wr ∧ rowsP (l.drop j) zs = rowsP l ys ∧ zs.length ≤ ys.length + 2 * j)) (fun _ k _ => len - (RowKit.intOf k).toNat)
  case atStart => exact ⟨0, ys, by omega, rfl, hu, Below.refl _ _, rfl, by omega⟩
  case round =>
    obtain ⟨j, zs, hj, rfl, hrel⟩ := hrel
    by_cases hlt : j < len
    · obtain ⟨x, hx⟩ : ∃ x, l[j]? = some x := ⟨_, List.getElem?_eq_getElem (by rw [HN.out]; exact hlt)⟩
      obtain ⟨b, off, rfl, hb, hcs⟩ := HC.out (by rw [HN.out]; omega)
      have T := Lib.hid (hcs j x hx)
      have HB := Lib.hid hrel.out.2.1
      have t0 := (HB.out.cell (p := ⟨b, off + j * 4, none⟩) hb).trans T.out.1
      have t1 := (HB.out.cell (p := ⟨b, off + j * 4 + 1, none⟩) hb).trans T.out.2.1
      have t2 := (HB.out.cell (p := ⟨b, off + j * 4 + 2, none⟩) hb).trans T.out.2.2.1
      have t3 := (HB.out.cell (p := ⟨b, off + j * 4 + 3, none⟩) hb).trans T.out.2.2.2
      have HD := Lib.hid (drop_at hx)
      have q0 : (j : Int) < len := by omega
      have q1 : (0 : Int) ≤ j := by omega
      have hbr : b < wr.heap.size := Nat.lt_of_lt_of_le hb HB.out.size
      have C1 := fun W => Lib.hid (usable_any x W)
      clear hx hcs
      cases he : empB x
      · rw [he] at C1
        have HE := Lib.hid he
        clear he
        go_wp2_with fail
        refine (C1 _).out.mono ?_
        rintro e w1 ⟨rfl, hb1⟩
        replace t0 := (hb1.cell (p := ⟨b, off + j * 4, none⟩) hbr).trans t0
        replace t1 := (hb1.cell (p := ⟨b, off + j * 4 + 1, none⟩) hbr).trans t1
        replace t2 := (hb1.cell (p := ⟨b, off + j * 4 + 2, none⟩) hbr).trans t2
        replace t3 := (hb1.cell (p := ⟨b, off + j * 4 + 3, none⟩) hbr).trans t3
        have hbr1 : b < w1.heap.size := Nat.lt_of_lt_of_le hbr hb1.size
        have HB1 := Lib.hid (HB.out.trans (hb1.mono HB.out.size))
        have HI1 := Lib.hid (hrel.out.1.below hb1)
        have hz := hrel.out.2.2.2
        clear hb1 C1
        go_wp2_with fail
        replace HI1 := Lib.hid (show Is w1.drew u1 zs from HI1.out)
        replace HB1 := Lib.hid HB1.out.drew
        have tok1 : True := trivial
        go_region_held3 (fun W => W.cell? ⟨b, off + j * 4 + 1, none⟩ = some (.int .i64 x.y0) ∧ W.cell? ⟨b, off + j * 4 + 3, none⟩ = some (.int .i64 x.y1))
          (first
            | go_keep
            | exact sk)
          (first
            | (go_at_call 110; have _t := tok1; (with_reducible refine (insert_any HI1.out x.y0 (by omega)).mono ?_); rintro e w2 ⟨t2, rfl, ho2, hb2⟩; have sk := And.intro ((hb2.cell (p := ⟨b, off + j * 4 + 1, none⟩) hbr1).trans t1) ((hb2.cell (p := ⟨b, off + j * 4 + 3, none⟩) hbr1).trans t3); replace HI1 := Lib.hid ho2.is; have hbr2 : b < w2.heap.size := Nat.lt_of_lt_of_le hbr1 hb2.size; replace HB1 := Lib.hid (HB1.out.trans (hb2.mono HB1.out.size)); have hl2 := insP_len x.y0 zs; clear tok1 ho2 hb2)
            | (go_at_call 110; (with_reducible refine (insert_any HI1.out x.y1 (by omega)).mono ?_); rintro e w3 ⟨t3, rfl, ho3, hb3⟩; have sk' := And.intro ((hb3.cell (p := ⟨b, off + j * 4 + 1, none⟩) hbr2).trans sk.1) ((hb3.cell (p := ⟨b, off + j * 4 + 3, none⟩) hbr2).trans sk.2); clear sk; have sk := sk'; clear sk'; replace HI1 := Lib.hid ho3.is; replace HB1 := Lib.hid (HB1.out.trans (hb3.mono HB1.out.size)); clear ho3 hb3)
            | fail)
        all_goals
          clear HLen sk
          go_wp2_with fail
          go_roundw
          case rel => exact ⟨j + 1, insP x.y1 (insP x.y0 zs), by omega, by go_num, HI1.out, HB1.out, by rw [← hrel.out.2.2.1, HD.out]; simp [rowsP, HE.out], by have := insP_len x.y1 (insP x.y0 zs); omega⟩
          case measure => simp [RowKit.intOf]; omega
      · rw [he] at C1
        have HE := Lib.hid he
        clear he
        go_wp2_with fail
        refine (C1 _).out.mono ?_
        rintro e w1 ⟨rfl, hb1⟩
        have HB1 := Lib.hid (HB.out.trans (hb1.mono HB.out.size))
        have HI1 := Lib.hid (hrel.out.1.below hb1)
        clear hb1 C1 t0 t1 t2 t3
        go_wp2_with fail
        go_roundw
        case rel => exact ⟨j + 1, zs, by omega, by go_num, HI1.out, HB1.out, by rw [← hrel.out.2.2.1, HD.out]; simp [rowsP, HE.out], by have := hrel.out.2.2.2; omega⟩
        case measure => simp [RowKit.intOf]; omega
    · have q0 : (len : Int) ≤ (j : Int) := by omega
      have HDn := Lib.hid (show l.drop j = [] from List.drop_eq_nil_of_le (by rw [HN.out]; omega))
      go_wp2_with fail
      go_ret
      refine ⟨_, rfl, ?_, hrel.out.2.1⟩
      have e := hrel.out.2.2.1
      rw [HDn.out] at e
      rw [← e]
      exact hrel.out.1

theorem flat2_at : ∀ {rs : Runs} {j : Nat} {p : Int × Int}, rs[j]? = some p → (flat2 rs)[2 * j]? = some p.1 ∧ (flat2 rs)[2 * j + 1]? = some p.2
  | [], j, p, h => by simp at h
  | q :: rs, 0, p, h => by
    simp only [List.getElem?_cons_zero, Option.some.injEq] at h
    subst h
    exact ⟨rfl, rfl⟩
  | q :: rs, j + 1, p, h => by
    rw [List.getElem?_cons_succ] at h
    have ih := flat2_at h
    have e : flat2 (q :: rs) = q.1 :: q.2 :: flat2 rs := rfl
    rw [e, show 2 * (j + 1) = 2 * j + 1 + 1 by omega, List.getElem?_cons_succ, List.getElem?_cons_succ, List.getElem?_cons_succ, List.getElem?_cons_succ]
    exact ih

theorem Is.drew {w : World} {v : Value} {l : List Int} (h : Is w v l) : Is w.drew v l := h

theorem flat2_append (a b : Runs) : flat2 (a ++ b) = flat2 a ++ flat2 b := List.flatMap_append

def AddRel (rs : Runs) (x0 x1 : Int) (w wr : World) (lo hi : Value) (X0 X1 : Int) (j : Nat) (low high : Runs) : Prop :=
  OwnI wr w.heap.size lo (flat2 low) ∧ OwnI wr w.heap.size hi (flat2 high) ∧ Apart lo hi ∧ Below w.heap.size w wr ∧ addGo (rs.drop j) low X0 X1 high = addP rs x0 x1 ∧ low.length + high.length ≤ j

set_option maxRecDepth 100000 in
set_option maxHeartbeats 4000000 in
theorem add_any {w : World} {v : Value} {rs : Runs} (h : Is w v (flat2 rs)) (x0 x1 : Int) (hl : rs.length ≤ 400000) :
    Calls Tryz.prog 112 #[v, .int .i64 x0, .int .i64 x1] w fun e w' => ∃ u, e = .returned u ∧ OwnI w' w.heap.size u (flat2 (addP rs x0 x1)) ∧ Below w.heap.size w w' := by
  obtain ⟨A, c, rfl, hc, hm, hcell⟩ := h
  simp only [maxLen] at hm
  have HC := Lib.hid hcell
  obtain ⟨len, hn⟩ : ∃ len, (flat2 rs).length = len := ⟨_, rfl⟩
  have hn2 := flat2_len rs
  have HN := Lib.hid hn2
  rw [hn] at hc hn2 ⊢
  obtain ⟨n, hnn⟩ : ∃ n, rs.length = n := ⟨_, rfl⟩
  have HNN := Lib.hid hnn
  have HLEN := Lib.hid hn
  rw [hnn] at hn2 hl
  have HL := Lib.hid hl
  have hlen : len ≤ 800000 := by omega
  have HN2 := Lib.hid hn2
  clear hcell hn hn2 hl hnn
  go_enter Tryz.func112, Tryz.ntmps112
  go_wp2_with fail
  go_loopw [1, 2, 7, 8, 9] (fun a b lo hi k wr => ∃ (j i : Nat) (X0 X1 : Int) (low high : Runs), i ≤ len ∧ k = .int .i64 (i : Int) ∧ a = .int .i64 X0 ∧ b = .int .i64 X1 ∧ Hid (i = 2 * j ∧ AddRel rs x0 x1 w wr lo hi X0 X1 j low high)) (fun _ _ _ _ k _ => len - (RowKit.intOf k).toNat)
  case atStart => exact ⟨0, 0, x0, x1, [], [], by omega, rfl, rfl, rfl, rfl, ownI_nil _ _, ownI_nil _ _, apart_nil _, Below.refl _ _, rfl, by simp⟩
  case round =>
    obtain ⟨j, i, X0, X1, low, high, hj, rfl, rfl, rfl, hrel⟩ := hrel
    have hR := hrel.out.2
    by_cases hlt : i < len
    · have hjn : j < n := by have := hrel.out.1; have := HN2.out; omega
      have hi1 : i + 1 < len := by have := hrel.out.1; have := HN2.out; omega
      obtain ⟨p, hp⟩ : ∃ p, rs[j]? = some p := ⟨_, List.getElem?_eq_getElem (by rw [HNN.out]; exact hjn)⟩
      obtain ⟨b, off, rfl, hb, hcs⟩ := HC.out (by rw [HLEN.out]; omega)
      have hf := flat2_at hp
      rw [← hrel.out.1] at hf
      have T0 := Lib.hid (hcs i p.1 hf.1)
      have T1 := Lib.hid (hcs (i + 1) p.2 hf.2)
      have HB := Lib.hid hR.2.2.2.1
      have t0 := (HB.out.cell (p := ⟨b, off + i, none⟩) hb).trans T0.out
      have t1 := (HB.out.cell (p := ⟨b, off + (i + 1), none⟩) hb).trans T1.out
      have HD := Lib.hid (drop_at hp)
      have q0 : (i : Int) < len := by omega
      have q1 : (0 : Int) ≤ i := by omega
      have q2 : (i : Int) + 1 < len := by omega
      have hsz := HB.out.size
      have hbr : b < wr.heap.size := Nat.lt_of_lt_of_le hb hsz
      have HJ := Lib.hid hrel.out.1
      have HRL := Lib.hid hR
      have hll : low.length + high.length ≤ 400000 := by have := hR.2.2.2.2.2; have := HL.out; omega
      have hl1 := flat2_len low
      have hl2 := flat2_len high
      have HPE : Hid (p = (p.1, p.2)) := Lib.hid rfl
      clear hf hp hcs hR hrel
      obtain ⟨pa, pb⟩ := p
      simp only at t0 t1
      by_cases h1 : pb < X0
      · have HG := Lib.hid (show addGo ((pa, pb) :: rs.drop (j + 1)) low X0 X1 high = addGo (rs.drop (j + 1)) (low ++ [(pa, pb)]) X0 X1 high by rw [addGo]; exact if_pos h1)
        go_wp2_with fail
        have f1 : IntKind.i64.wrap ((i : Int) + 1) = (i : Int) + 1 := IntWalk.i64_in _ (by omega)
        have f2 : (0 : Int) ≤ (i : Int) + 1 := by omega
        have f3 : ((i : Int) + 1).toNat = i + 1 := by omega
        have hO := HRL.out.1
        have hO2 := HRL.out.2.1
        have s0 := And.intro t0 t1
        go_region_held3 (fun W => W.cell? ⟨b, off + i, none⟩ = some (.int .i64 pa) ∧ W.cell? ⟨b, off + (i + 1), none⟩ = some (.int .i64 pb))
          (first
            | go_keep
            | exact s1)
          (first
            | (refine step_appI (by rfl) _ _ (by rfl) (base := w.heap.size) (l := flat2 low) (m := [pa, pb]) (by rfl) (World.ownsRow.drew (World.ownsRow.alloc hO _)) (by rfl) (is_two wr pa pb).drew (by simp; omega) (by simp; omega) ?_; intro v1 w1 ho1 hg1 hl1' _; have hbb := below_grown0 (HB.out.alloc hsz _).drew (by simp; omega) (Nat.le_refl _) ((World.ownsRow.alloc hO _).drew) hg1; have s1 := And.intro ((hbb.cell (p := ⟨b, off + i, none⟩) hb).trans T0.out) ((hbb.cell (p := ⟨b, off + (i + 1), none⟩) hb).trans T1.out)))
        have HN := Lib.hid (own_else0 ((World.ownsRow.alloc hO2 _).drew) hg1 HRL.out.2.2.1.symm hl1')
        have HO1 := Lib.hid ho1
        have HB1 := Lib.hid hbb
        clear f1 f2 f3 hbb hg1 ho1 hl1' s0 s1 t0 t1 hO hO2
        go_wp2_with fail
        go_roundw
        case rel => exact ⟨j + 1, i + 2, X0, X1, low ++ [(pa, pb)], high, by omega, by go_num, rfl, rfl, Lib.hid ⟨by have := HJ.out; omega, by rw [flat2_append]; exact HO1.out, HN.out.1, HN.out.2.symm, HB1.out, by rw [← HG.out, ← HD.out]; exact HRL.out.2.2.2.2.1, by have := HRL.out.2.2.2.2.2; simp; omega⟩⟩
        case measure => simp [RowKit.intOf]; omega
      · by_cases h2 : X1 < pa
        · have h3 : X0 ≤ pb := by omega
          have HG := Lib.hid (show addGo ((pa, pb) :: rs.drop (j + 1)) low X0 X1 high = addGo (rs.drop (j + 1)) low X0 X1 (high ++ [(pa, pb)]) by rw [addGo]; exact (if_neg h1).trans (if_pos h2))
          go_wp2_with fail
          have f1 : IntKind.i64.wrap ((i : Int) + 1) = (i : Int) + 1 := IntWalk.i64_in _ (by omega)
          have f2 : (0 : Int) ≤ (i : Int) + 1 := by omega
          have f3 : ((i : Int) + 1).toNat = i + 1 := by omega
          have hO := HRL.out.1
          have hO2 := HRL.out.2.1
          have s0 := And.intro t0 t1
          go_region_held3 (fun W => W.cell? ⟨b, off + i, none⟩ = some (.int .i64 pa) ∧ W.cell? ⟨b, off + (i + 1), none⟩ = some (.int .i64 pb))
            (first
              | go_keep
              | exact s1)
            (first
              | (refine step_appI (by rfl) _ _ (by rfl) (base := w.heap.size) (l := flat2 high) (m := [pa, pb]) (by rfl) (World.ownsRow.drew (World.ownsRow.alloc hO2 _)) (by rfl) (is_two wr pa pb).drew (by simp; omega) (by simp; omega) ?_; intro v1 w1 ho1 hg1 hl1' _; have hbb := below_grown0 (HB.out.alloc hsz _).drew (by simp; omega) (Nat.le_refl _) ((World.ownsRow.alloc hO2 _).drew) hg1; have s1 := And.intro ((hbb.cell (p := ⟨b, off + i, none⟩) hb).trans T0.out) ((hbb.cell (p := ⟨b, off + (i + 1), none⟩) hb).trans T1.out)))
          have HN := Lib.hid (own_else0 ((World.ownsRow.alloc hO _).drew) hg1 HRL.out.2.2.1 hl1')
          have HO1 := Lib.hid ho1
          have HB1 := Lib.hid hbb
          clear f1 f2 f3 hbb hg1 ho1 hl1' s0 s1 t0 t1 hO hO2
          go_wp2_with fail
          go_roundw
          case rel => exact ⟨j + 1, i + 2, X0, X1, low, high ++ [(pa, pb)], by omega, by go_num, rfl, rfl, Lib.hid ⟨by have := HJ.out; omega, HN.out.1, by rw [flat2_append]; exact HO1.out, HN.out.2, HB1.out, by rw [← HG.out, ← HD.out]; exact HRL.out.2.2.2.2.1, by have := HRL.out.2.2.2.2.2; simp; omega⟩⟩
          case measure => simp [RowKit.intOf]; omega
        · have HG := Lib.hid (show addGo ((pa, pb) :: rs.drop (j + 1)) low X0 X1 high = addGo (rs.drop (j + 1)) low (min X0 pa) (max X1 pb) high by rw [addGo]; exact (if_neg h1).trans (if_neg h2))
          have h3 : X0 ≤ pb := by omega
          have h4 : pa ≤ X1 := by omega
          go_wp2_with fail
          go_roundw
          case rel => exact ⟨j + 1, i + 2, min X0 pa, max X1 pb, low, high, by omega, by go_num, rfl, rfl, Lib.hid ⟨by have := HJ.out; omega, HRL.out.1, HRL.out.2.1, HRL.out.2.2.1, HB.out, by rw [← HG.out, ← HD.out]; exact HRL.out.2.2.2.2.1, by have := HRL.out.2.2.2.2.2; omega⟩⟩
          case measure => simp [RowKit.intOf]; omega
    · have q0 : (len : Int) ≤ (i : Int) := by omega
      have HDn := Lib.hid (show rs.drop j = [] from List.drop_eq_nil_of_le (by rw [HNN.out]; have := hrel.out.1; have := HN2.out; omega))
      have HB := Lib.hid hR.2.2.2.1
      have hO := hR.1
      have hO2 := hR.2.1
      have HA := Lib.hid hR.2.2.1
      have HE := Lib.hid hR.2.2.2.2.1
      have hll : (flat2 low).length + (flat2 high).length ≤ 800000 := by have := hR.2.2.2.2.2; have := hrel.out.1; have := HN2.out; have := HL.out; have := flat2_len low; have := flat2_len high; omega
      have hsz := HB.out.size
      obtain ⟨Ah, ch, rfl, hch1, hch2, _⟩ := id hO2.is
      clear hR hrel
      go_wp2_with (first
        | (at_builtin; have _t := hO; refine wpList_appI rfl _ _ rfl (base := w.heap.size) (l := flat2 low) (m := [X0, X1]) rfl (World.ownsRow.alloc hO _) rfl (is_two wr X0 X1) (by simp; omega) (by simp; omega) ?_; intro v1 w1 ho1 hg1 hl1' _; have HN := Lib.hid (own_else0 (World.ownsRow.alloc hO2 _) hg1 HA.out.symm hl1'); have HB1 := Lib.hid (below_grown HB.out hsz (Nat.le_refl _) hO hg1); have hs1 := HB1.out.size; clear hO hO2 hg1 hl1')
        | (at_builtin; refine wpList_appI rfl _ _ rfl (base := w.heap.size) (l := flat2 low ++ [X0, X1]) (m := flat2 high) rfl ho1 rfl (OwnI.is (l := flat2 high) HN.out.1) (by simp; omega) (by omega) ?_; intro v2 w2 ho2 hg2 _ _; have HB2 := Lib.hid (below_grown0 HB1.out hs1 (Nat.le_refl _) ho1 hg2); clear ho1 hg2)
        | go_in)
      go_ret
      refine ⟨_, rfl, ?_, HB2.out⟩
      have e : addP rs x0 x1 = low ++ (X0, X1) :: high := by rw [← HE.out, HDn.out]; rfl
      rw [e, flat2_append]
      have e2 : flat2 ((X0, X1) :: high) = [X0, X1] ++ flat2 high := rfl
      rw [e2, ← List.append_assoc]
      exact ho2

theorem below_draws {B : Nat} {w w1 : World} (h : Below B w w1) : ∀ n, Below B w (w1.drewN n)
  | 0 => h
  | n + 1 => (below_draws h n).drew

set_option maxRecDepth 100000 in
set_option maxHeartbeats 2000000 in
theorem same_true {w : World} {v1 v2 : Value} {l : List R} (h1 : Rs w v1 l) (h2 : Rs w v2 l) : Calls Tryz.prog 29 #[v1, v2] w fun e w' => e = .returned (.bool true) ∧ Below w.heap.size w w' := by
  obtain ⟨A, c, rfl, hc1, hm1, hcell1⟩ := h1
  obtain ⟨A', c', rfl, hc2, hm2, hcell2⟩ := h2
  simp only [maxLen] at hm1 hm2
  have HC1 := Lib.hid hcell1
  have HC2 := Lib.hid hcell2
  obtain ⟨n, hn⟩ : ∃ n, l.length = n := ⟨_, rfl⟩
  have HN := Lib.hid hn
  rw [hn] at hc1 hc2 ⊢
  clear hcell1 hcell2 hn
  go_enter Tryz.func29, Tryz.ntmps29
  go_wp2_with fail
  go_loopw [5] (fun k wr => ∃ j : Nat, j ≤ n ∧ k = .int .i64 (j : Int) ∧ Hid (Below w.heap.size w wr)) (fun k _ => n - (RowKit.intOf k).toNat)
  case atStart => exact ⟨0, by omega, rfl, Below.refl _ _⟩
  case round =>
    obtain ⟨j, hj, rfl, hrel⟩ := hrel
    by_cases hlt : j < n
    · obtain ⟨x, hx⟩ : ∃ x, l[j]? = some x := ⟨_, List.getElem?_eq_getElem (by rw [HN.out]; exact hlt)⟩
      obtain ⟨b, off, rfl, hb, hcs⟩ := HC1.out (by rw [HN.out]; omega)
      obtain ⟨b', off', rfl, hb', hcs'⟩ := HC2.out (by rw [HN.out]; omega)
      obtain ⟨t0, t1, t2, t3⟩ := hcs j x hx
      obtain ⟨s0, s1, s2, s3⟩ := hcs' j x hx
      rw [← hrel.out.cell (p := ⟨b, off + j * 4, none⟩) hb] at t0
      rw [← hrel.out.cell (p := ⟨b, off + j * 4 + 1, none⟩) hb] at t1
      rw [← hrel.out.cell (p := ⟨b, off + j * 4 + 2, none⟩) hb] at t2
      rw [← hrel.out.cell (p := ⟨b, off + j * 4 + 3, none⟩) hb] at t3
      rw [← hrel.out.cell (p := ⟨b', off' + j * 4, none⟩) hb'] at s0
      rw [← hrel.out.cell (p := ⟨b', off' + j * 4 + 1, none⟩) hb'] at s1
      rw [← hrel.out.cell (p := ⟨b', off' + j * 4 + 2, none⟩) hb'] at s2
      rw [← hrel.out.cell (p := ⟨b', off' + j * 4 + 3, none⟩) hb'] at s3
      clear hx hcs hcs' HC1 HC2
      have q0 : (j : Int) < n := by omega
      have q1 : (0 : Int) ≤ j := by omega
      go_wp2_with fail
      go_quiet (fail)
      go_wp2_with fail
      go_roundw
      case rel => exact ⟨j + 1, by omega, by go_num, below_draws hrel.out _⟩
      case measure => simp [RowKit.intOf]; omega
    · have q0 : (n : Int) ≤ (j : Int) := by omega
      go_wp2_with fail
      go_ret
      exact ⟨rfl, hrel.out⟩

set_option maxRecDepth 100000 in
set_option maxHeartbeats 4000000 in
theorem in_any {w : World} {v : Value} {rs : Runs} (h : Is w v (flat2 rs)) (x : Int) (hl : rs.length ≤ 400000) :
    Calls Tryz.prog 111 #[v, .int .i64 x] w fun e w' => e = .returned (.bool (inR rs x)) ∧ Below w.heap.size w w' := by
  obtain ⟨A, c, rfl, hc, hm, hcell⟩ := h
  simp only [maxLen] at hm
  have HC := Lib.hid hcell
  obtain ⟨len, hn⟩ : ∃ len, (flat2 rs).length = len := ⟨_, rfl⟩
  have hn2 := flat2_len rs
  rw [hn] at hc hn2 ⊢
  obtain ⟨n, hnn⟩ : ∃ n, rs.length = n := ⟨_, rfl⟩
  have HNN := Lib.hid hnn
  have HLEN := Lib.hid hn
  rw [hnn] at hn2 hl
  have hlen : len ≤ 800000 := by omega
  have HN2 := Lib.hid hn2
  obtain ⟨res, hres⟩ : ∃ res, inR rs x = res := ⟨_, rfl⟩
  have HRES := Lib.hid hres
  rw [hres]
  clear hcell hn hn2 hl hnn hres
  go_enter Tryz.func111, Tryz.ntmps111
  go_wp2_with fail
  go_loopw [5] (fun k wr => ∃ (j i : Nat), i ≤ len ∧ k = .int .i64 (i : Int) ∧ Hid (i = 2 * j ∧ Below w.heap.size w wr ∧ inR (rs.drop j) x = res)) (fun k _ => len - (RowKit.intOf k).toNat)
  case atStart => exact ⟨0, 0, by omega, rfl, rfl, Below.refl _ _, HRES.out⟩
  case round =>
    obtain ⟨j, i, hj, rfl, hrel⟩ := hrel
    have HB := Lib.hid hrel.out.2.1
    by_cases hlt : i < len
    · have hjn : j < n := by have := hrel.out.1; have := HN2.out; omega
      have hi1 : i + 1 < len := by have := hrel.out.1; have := HN2.out; omega
      obtain ⟨p, hp⟩ : ∃ p, rs[j]? = some p := ⟨_, List.getElem?_eq_getElem (by rw [HNN.out]; exact hjn)⟩
      obtain ⟨b, off, rfl, hb, hcs⟩ := HC.out (by rw [HLEN.out]; omega)
      have hf := flat2_at hp
      rw [← hrel.out.1] at hf
      have t0 := (HB.out.cell (p := ⟨b, off + i, none⟩) hb).trans (hcs i p.1 hf.1)
      have t1 := (HB.out.cell (p := ⟨b, off + (i + 1), none⟩) hb).trans (hcs (i + 1) p.2 hf.2)
      have HD := drop_at hp
      have HR := hrel.out.2.2
      rw [HD, inR_cons] at HR
      have HJ := Lib.hid hrel.out.1
      have q0 : (i : Int) < len := by omega
      have q1 : (0 : Int) ≤ i := by omega
      have q2 : (i : Int) + 1 < len := by omega
      clear hf hp hcs hrel HD
      obtain ⟨pa, pb⟩ := p
      simp only at t0 t1 HR
      have HRR := Lib.hid HR
      clear HR
      by_cases h1 : pa ≤ x
      · by_cases h2 : x < pb
        · have e : res = true := by rw [← HRR.out]; simp [h1, h2]
          subst e
          go_wp2_with fail
          go_ret
          exact ⟨rfl, HB.out⟩
        · have h3 : pb ≤ x := by omega
          have HE := Lib.hid (show inR (rs.drop (j + 1)) x = res by rw [← HRR.out]; simp [h2])
          clear HRR
          go_wp2_with fail
          go_roundw
          case rel => exact ⟨j + 1, i + 2, by omega, by go_num, Lib.hid ⟨by have := HJ.out; omega, HB.out, HE.out⟩⟩
          case measure => simp [RowKit.intOf]; omega
      · have h3 : x < pa := by omega
        have HE := Lib.hid (show inR (rs.drop (j + 1)) x = res by rw [← HRR.out]; simp [h1])
        clear HRR
        go_wp2_with fail
        go_roundw
        case rel => exact ⟨j + 1, i + 2, by omega, by go_num, Lib.hid ⟨by have := HJ.out; omega, HB.out, HE.out⟩⟩
        case measure => simp [RowKit.intOf]; omega
    · have q0 : (len : Int) ≤ (i : Int) := by omega
      have HE := hrel.out.2.2
      rw [List.drop_eq_nil_of_le (by rw [HNN.out]; have := hrel.out.1; have := HN2.out; omega)] at HE
      have e : res = false := by rw [← HE]; rfl
      clear HE hrel
      subst e
      go_wp2_with fail
      go_ret
      exact ⟨rfl, HB.out⟩

theorem drop_ne {l m : List Int} {j : Nat} {x y : Int} (hx : l[j]? = some x) (hy : m[j]? = some y) (h : x ≠ y) : l ≠ m := fun e => by
  rw [e, hy] at hx
  exact h (Option.some.inj hx).symm

set_option maxRecDepth 100000 in
set_option maxHeartbeats 4000000 in
theorem sameRuns_any {w : World} {v u : Value} {l m : List Int} (h : Is w v l) (hu : Is w u m) (hl : l.length ≤ 4000000 ∧ m.length ≤ 4000000) :
    Calls Tryz.prog 98 #[v, u] w fun e w' => e = .returned (.bool (decide (l = m))) ∧ Below w.heap.size w w' := by
  obtain ⟨A, c, rfl, hc, hm, hcell⟩ := h
  obtain ⟨A', c', rfl, hc', hm', hcell'⟩ := hu
  simp only [maxLen] at hm hm'
  by_cases he : l.length = m.length
  · have HC := Lib.hid hcell
    have HC' := Lib.hid hcell'
    obtain ⟨len, hn⟩ : ∃ len, l.length = len := ⟨_, rfl⟩
    rw [← he, hn] at hc' hl
    rw [← he, hn]
    rw [hn] at hc
    have HN := Lib.hid hn
    have HN' := Lib.hid (he.symm.trans hn)
    obtain ⟨hl, _⟩ := hl
    obtain ⟨res, hres⟩ : ∃ res, decide (l = m) = res := ⟨_, rfl⟩
    have HRES := Lib.hid hres
    rw [hres]
    clear hcell hcell' hn he hres
    go_enter Tryz.func98, Tryz.ntmps98
    go_wp2_with fail
    go_loopw [5] (fun k wr => ∃ (j : Nat), j ≤ len ∧ k = .int .i64 (j : Int) ∧ Hid (Below w.heap.size w wr ∧ l.take j = m.take j)) (fun k _ => len - (RowKit.intOf k).toNat)
    case atStart => exact ⟨0, by omega, rfl, Below.refl _ _, by simp⟩
    case round =>
      obtain ⟨j, hj, rfl, hrel⟩ := hrel
      have HB := Lib.hid hrel.out.1
      by_cases hlt : j < len
      · obtain ⟨x, hx⟩ : ∃ x, l[j]? = some x := ⟨_, List.getElem?_eq_getElem (by rw [HN.out]; exact hlt)⟩
        obtain ⟨y, hy⟩ : ∃ y, m[j]? = some y := ⟨_, List.getElem?_eq_getElem (by rw [HN'.out]; exact hlt)⟩
        obtain ⟨b, off, rfl, hb, hcs⟩ := HC.out (by rw [HN.out]; omega)
        obtain ⟨b', off', rfl, hb', hcs'⟩ := HC'.out (by rw [HN'.out]; omega)
        have t0 := (HB.out.cell (p := ⟨b, off + j, none⟩) hb).trans (hcs j x hx)
        have t1 := (HB.out.cell (p := ⟨b', off' + j, none⟩) hb').trans (hcs' j y hy)
        have q0 : (j : Int) < len := by omega
        have q1 : (0 : Int) ≤ j := by omega
        have HX := Lib.hid hx
        have HY := Lib.hid hy
        clear hx hy hcs hcs'
        by_cases h1 : x = y
        · subst h1
          go_wp2_with fail
          go_quiet (fail)
          go_wp2_with fail
          go_roundw
          case rel => exact ⟨j + 1, by omega, by go_num, Lib.hid ⟨below_draws HB.out _, by rw [List.take_add_one, List.take_add_one, hrel.out.2, HX.out, HY.out]⟩⟩
          case measure => simp [RowKit.intOf]; omega
        · have HNE := Lib.hid (drop_ne HX.out HY.out h1)
          have e : res = false := by rw [← HRES.out]; exact decide_eq_false HNE.out
          subst e
          go_wp2_with fail
          go_quiet (fail)
          go_wp2_with fail
          go_ret
          exact ⟨rfl, below_draws HB.out _⟩
      · have q0 : (len : Int) ≤ (j : Int) := by omega
        have HE := hrel.out.2
        rw [List.take_of_length_le (by rw [HN.out]; omega), List.take_of_length_le (by rw [HN'.out]; omega)] at HE
        have e : res = true := by rw [← HRES.out]; exact decide_eq_true HE
        clear HE hrel
        subst e
        go_wp2_with fail
        go_ret
        exact ⟨rfl, HB.out⟩
  · have e : decide (l = m) = false := decide_eq_false (fun e => he (by rw [e]))
    rw [e]
    obtain ⟨n1, h1⟩ : ∃ n, l.length = n := ⟨_, rfl⟩
    obtain ⟨n2, h2⟩ : ∃ n, m.length = n := ⟨_, rfl⟩
    rw [h1] at hc hl he ⊢
    rw [h2] at hc' hl he ⊢
    have q : ¬ (n1 : Int) = n2 := by omega
    clear h1 h2 hcell hcell' he e
    go_enter Tryz.func98, Tryz.ntmps98
    go_wp2_with fail
    go_ret
    exact ⟨rfl, Below.refl _ _⟩

end Go.Proofs.YthedglfocjljjaaGreatDoor.Rgn
