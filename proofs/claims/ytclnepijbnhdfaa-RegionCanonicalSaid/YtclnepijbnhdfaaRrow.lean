/-
  row of the reference: the runs of a row of a list of rectangles.
-/
import Derived.Test.YtclnepijbnhdfaaRin
namespace Go.Proofs.Ytclnepijbnhdfaa
open Go.RowKit

set_option maxRecDepth 100000 in
set_option maxHeartbeats 4000000 in
theorem row_any {w : World} {v : Value} {l : List R} (h : Rs w v l) (y : Int) (hl : l.length ≤ 400000) :
    Calls Try.prog 53 #[v, .int .i64 y] w fun e w' => ∃ t, e = .returned t ∧ Is w' t (flat2 (rowP l y [])) ∧ Below w.heap.size w w' := by
  obtain ⟨A, c, rfl, hc, hm, hcell⟩ := h
  simp only [maxLen] at hm
  have HC := Lib.hid hcell
  obtain ⟨len, hn⟩ : ∃ len, l.length = len := ⟨_, rfl⟩
  have HN := Lib.hid hn
  rw [hn] at hc hl ⊢
  clear hcell hn
  go_enter Try.func53, Try.ntmps53
  go_wp2_with fail
  go_loopw [5, 6] (fun t k wr => ∃ (j : Nat) (acc : Runs), j ≤ len ∧ k = .int .i64 (j : Int) ∧ Hid (Is wr t (flat2 acc) ∧ Below w.heap.size w wr ∧ rowP (l.drop j) y acc = rowP l y [] ∧ acc.length ≤ j)) (fun _ k _ => len - (intOf k).toNat)
  case atStart => exact ⟨0, [], by omega, rfl, is_nil _, Below.refl _ _, rfl, by simp⟩
  case round =>
    obtain ⟨j, acc, hj, rfl, hrel⟩ := hrel
    by_cases hlt : j < len
    · obtain ⟨x, hx⟩ : ∃ x, l[j]? = some x := ⟨_, List.getElem?_eq_getElem (by rw [HN.out]; exact hlt)⟩
      obtain ⟨b, off, rfl, hb, hcs⟩ := HC.out (by rw [HN.out]; omega)
      have T := Lib.hid (hcs j x hx)
      have HB := Lib.hid hrel.out.2.1
      have t0 := (HB.out.cell (p := ⟨b, off + j * 4, none⟩) hb).trans T.out.1
      have t1 := (HB.out.cell (p := ⟨b, off + j * 4 + 1, none⟩) hb).trans T.out.2.1
      have t2 := (HB.out.cell (p := ⟨b, off + j * 4 + 2, none⟩) hb).trans T.out.2.2.1
      have t3 := (HB.out.cell (p := ⟨b, off + j * 4 + 3, none⟩) hb).trans T.out.2.2.2
      have HD := Lib.hid (drop_at hx)
      have q0 : (j : Int) < len := by omega
      have q1 : (0 : Int) ≤ j := by omega
      have hbr : b < wr.heap.size := Nat.lt_of_lt_of_le hb HB.out.size
      have C1 := fun W => Lib.hid (usable_any x W)
      have hla := hrel.out.2.2.2
      clear hx hcs
      have HR := Lib.hid (show rowP (l.drop (j + 1)) y (if !empB x && decide (x.y0 ≤ y) && decide (y < x.y1) then addP acc x.x0 x.x1 else acc) = rowP l y [] by rw [← hrel.out.2.2.1, HD.out, rowP])
      cases he : empB x
      · rw [he] at C1
        have HE := Lib.hid he
        clear he
        go_wp2_with fail
        refine (C1 _).out.mono ?_
        rintro e w1 ⟨rfl, hb1⟩
        replace t0 := (hb1.cell (p := ⟨b, off + j * 4, none⟩) hbr).trans t0
        replace t1 := (hb1.cell (p := ⟨b, off + j * 4 + 1, none⟩) hbr).trans t1
        replace t2 := (hb1.cell (p := ⟨b, off + j * 4 + 2, none⟩) hbr).trans t2
        replace t3 := (hb1.cell (p := ⟨b, off + j * 4 + 3, none⟩) hbr).trans t3
        have hbr1 : b < w1.heap.size := Nat.lt_of_lt_of_le hbr hb1.size
        have HB1 := Lib.hid (HB.out.trans (hb1.mono HB.out.size))
        have HI1 := Lib.hid (hrel.out.1.below hb1)
        clear hb1 C1
        by_cases h1 : x.y0 ≤ y
        · by_cases h2 : y < x.y1
          · replace HR := Lib.hid (show rowP (l.drop (j + 1)) y (addP acc x.x0 x.x1) = rowP l y [] by rw [← HR.out]; simp [HE.out, h1, h2])
            go_wp2_with fail
            replace HI1 := Lib.hid (show Is w1.drew u5 (flat2 acc) from HI1.out)
            replace HB1 := Lib.hid HB1.out.drew
            go_region_held3 (fun W => W.cell? ⟨b, off + j * 4, none⟩ = some (.int .i64 x.x0) ∧ W.cell? ⟨b, off + j * 4 + 2, none⟩ = some (.int .i64 x.x1))
              (first
                | go_keep
                | exact sk)
              (first
                | (go_at_call 70; (with_reducible refine (add_any HI1.out x.x0 x.x1 (by omega)).mono ?_); rintro e w2 ⟨u2, rfl, ho2, hb2⟩; have sk := And.intro ((hb2.cell (p := ⟨b, off + j * 4, none⟩) hbr1).trans t0) ((hb2.cell (p := ⟨b, off + j * 4 + 2, none⟩) hbr1).trans t2); have HI2 := Lib.hid ho2.is; replace HB1 := Lib.hid (HB1.out.trans (hb2.mono HB1.out.size)); clear ho2 hb2)
                | fail)
            all_goals
              clear sk
              have hal : (addP acc x.x0 x.x1).length ≤ acc.length + 1 := by have := addGo_len acc [] x.x0 x.x1 []; simpa [addP] using this
              go_wp2_with fail
              go_roundw
              case rel => exact ⟨j + 1, addP acc x.x0 x.x1, by omega, by go_num, HI2.out, HB1.out, HR.out, by omega⟩
              case measure => simp [intOf]; omega
          · have h3 : x.y1 ≤ y := by omega
            replace HR := Lib.hid (show rowP (l.drop (j + 1)) y acc = rowP l y [] by rw [← HR.out]; simp [h2])
            go_wp2_with fail
            go_roundw
            case rel => exact ⟨j + 1, acc, by omega, by go_num, HI1.out, HB1.out, HR.out, by omega⟩
            case measure => simp [intOf]; omega
        · have h3 : y < x.y0 := by omega
          replace HR := Lib.hid (show rowP (l.drop (j + 1)) y acc = rowP l y [] by rw [← HR.out]; simp [h1])
          go_wp2_with fail
          go_roundw
          case rel => exact ⟨j + 1, acc, by omega, by go_num, HI1.out, HB1.out, HR.out, by omega⟩
          case measure => simp [intOf]; omega
      · rw [he] at C1
        replace HR := Lib.hid (show rowP (l.drop (j + 1)) y acc = rowP l y [] by rw [← HR.out]; simp [he])
        clear he
        go_wp2_with fail
        refine (C1 _).out.mono ?_
        rintro e w1 ⟨rfl, hb1⟩
        have HB1 := Lib.hid (HB.out.trans (hb1.mono HB.out.size))
        have HI1 := Lib.hid (hrel.out.1.below hb1)
        clear hb1 C1 t0 t1 t2 t3
        go_wp2_with fail
        go_roundw
        case rel => exact ⟨j + 1, acc, by omega, by go_num, HI1.out, HB1.out, HR.out, by omega⟩
        case measure => simp [intOf]; omega
    · have q0 : (len : Int) ≤ (j : Int) := by omega
      have HDn := Lib.hid (show l.drop j = [] from List.drop_eq_nil_of_le (by rw [HN.out]; omega))
      go_wp2_with fail
      go_ret
      refine ⟨_, rfl, ?_, hrel.out.2.1⟩
      have e := hrel.out.2.2.1
      rw [HDn.out] at e
      rw [← e]
      exact hrel.out.1

end Go.Proofs.Ytclnepijbnhdfaa
