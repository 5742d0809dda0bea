/-
  row of the reference: the runs of a row of a list of rectangles.
-/
import Derived.Test.YthedglfocjljjaaGreatDoorRoc
import Derived.Test.YthedglfocjljjaaGreatDoorRob
namespace Go.Proofs.YthedglfocjljjaaGreatDoor.Rgn
open Go.RowKit

set_option maxRecDepth 100000 in
set_option maxHeartbeats 4000000 in
theorem row_any {w : World} {v : Value} {l : List R} (h : Rs w v l) (y : Int) (hl : l.length ≤ 400000) :
    Calls Tryz.prog 97 #[v, .int .i64 y] w fun e w' => ∃ t, e = .returned t ∧ Is w' t (flat2 (rowP l y [])) ∧ Below w.heap.size w w' := by
  obtain ⟨A, c, rfl, hc, hm, hcell⟩ := h
  simp only [maxLen] at hm
  have HC := Lib.hid hcell
  obtain ⟨len, hn⟩ : ∃ len, l.length = len := ⟨_, rfl⟩
  have HN := Lib.hid hn
  rw [hn] at hc hl ⊢
  clear hcell hn
  go_enter Tryz.func97, Tryz.ntmps97
  go_wp2_with fail
  go_loopw [5, 6] (fun t k wr => ∃ (j : Nat) (acc : Runs), j ≤ len ∧ k = .int .i64 (j : Int) ∧ Hid (Is wr t (flat2 acc) ∧ Below w.heap.size w wr ∧ rowP (l.drop j) y acc = rowP l y [] ∧ acc.length ≤ j)) (fun _ k _ => len - (RowKit.intOf k).toNat)
  case atStart => exact ⟨0, [], by omega, rfl, is_nil _, Below.refl _ _, rfl, by simp⟩
  case round =>
    obtain ⟨j, acc, hj, rfl, hrel⟩ := hrel
    by_cases hlt : j < len
    · obtain ⟨x, hx⟩ : ∃ x, l[j]? = some x := ⟨_, List.getElem?_eq_getElem (by rw [HN.out]; exact hlt)⟩
      obtain ⟨b, off, rfl, hb, hcs⟩ := HC.out (by rw [HN.out]; omega)
      have T := Lib.hid (hcs j x hx)
      have HB := Lib.hid hrel.out.2.1
      have t0 := (HB.out.cell (p := ⟨b, off + j * 4, none⟩) hb).trans T.out.1
      have t1 := (HB.out.cell (p := ⟨b, off + j * 4 + 1, none⟩) hb).trans T.out.2.1
      have t2 := (HB.out.cell (p := ⟨b, off + j * 4 + 2, none⟩) hb).trans T.out.2.2.1
      have t3 := (HB.out.cell (p := ⟨b, off + j * 4 + 3, none⟩) hb).trans T.out.2.2.2
      have HD := Lib.hid (drop_at hx)
      have q0 : (j : Int) < len := by omega
      have q1 : (0 : Int) ≤ j := by omega
      have hbr : b < wr.heap.size := Nat.lt_of_lt_of_le hb HB.out.size
      have C1 := fun W => Lib.hid (usable_any x W)
      have hla := hrel.out.2.2.2
      clear hx hcs
      have HR := Lib.hid (show rowP (l.drop (j + 1)) y (if !empB x && decide (x.y0 ≤ y) && decide (y < x.y1) then addP acc x.x0 x.x1 else acc) = rowP l y [] by rw [← hrel.out.2.2.1, HD.out, rowP])
      cases he : empB x
      · rw [he] at C1
        have HE := Lib.hid he
        clear he
        go_wp2_with fail
        refine (C1 _).out.mono ?_
        rintro e w1 ⟨rfl, hb1⟩
        replace t0 := (hb1.cell (p := ⟨b, off + j * 4, none⟩) hbr).trans t0
        replace t1 := (hb1.cell (p := ⟨b, off + j * 4 + 1, none⟩) hbr).trans t1
        replace t2 := (hb1.cell (p := ⟨b, off + j * 4 + 2, none⟩) hbr).trans t2
        replace t3 := (hb1.cell (p := ⟨b, off + j * 4 + 3, none⟩) hbr).trans t3
        have hbr1 : b < w1.heap.size := Nat.lt_of_lt_of_le hbr hb1.size
        have HB1 := Lib.hid (HB.out.trans (hb1.mono HB.out.size))
        have HI1 := Lib.hid (hrel.out.1.below hb1)
        clear hb1 C1
        by_cases h1 : x.y0 ≤ y
        · by_cases h2 : y < x.y1
          · replace HR := Lib.hid (show rowP (l.drop (j + 1)) y (addP acc x.x0 x.x1) = rowP l y [] by rw [← HR.out]; simp [HE.out, h1, h2])
            go_wp2_with fail
            replace HI1 := Lib.hid (show Is w1.drew u5 (flat2 acc) from HI1.out)
            replace HB1 := Lib.hid HB1.out.drew
            go_region_held3 (fun W => W.cell? ⟨b, off + j * 4, none⟩ = some (.int .i64 x.x0) ∧ W.cell? ⟨b, off + j * 4 + 2, none⟩ = some (.int .i64 x.x1))
              (first
                | go_keep
                | exact sk)
              (first
                | (go_at_call 112; (with_reducible refine (add_any HI1.out x.x0 x.x1 (by omega)).mono ?_); rintro e w2 ⟨u2, rfl, ho2, hb2⟩; have sk := And.intro ((hb2.cell (p := ⟨b, off + j * 4, none⟩) hbr1).trans t0) ((hb2.cell (p := ⟨b, off + j * 4 + 2, none⟩) hbr1).trans t2); have HI2 := Lib.hid ho2.is; replace HB1 := Lib.hid (HB1.out.trans (hb2.mono HB1.out.size)); clear ho2 hb2)
                | fail)
            all_goals
              clear sk
              have hal : (addP acc x.x0 x.x1).length ≤ acc.length + 1 := by have := addGo_len acc [] x.x0 x.x1 []; simpa [addP] using this
              go_wp2_with fail
              go_roundw
              case rel => exact ⟨j + 1, addP acc x.x0 x.x1, by omega, by go_num, HI2.out, HB1.out, HR.out, by omega⟩
              case measure => simp [RowKit.intOf]; omega
          · have h3 : x.y1 ≤ y := by omega
            replace HR := Lib.hid (show rowP (l.drop (j + 1)) y acc = rowP l y [] by rw [← HR.out]; simp [h2])
            go_wp2_with fail
            go_roundw
            case rel => exact ⟨j + 1, acc, by omega, by go_num, HI1.out, HB1.out, HR.out, by omega⟩
            case measure => simp [RowKit.intOf]; omega
        · have h3 : y < x.y0 := by omega
          replace HR := Lib.hid (show rowP (l.drop (j + 1)) y acc = rowP l y [] by rw [← HR.out]; simp [h1])
          go_wp2_with fail
          go_roundw
          case rel => exact ⟨j + 1, acc, by omega, by go_num, HI1.out, HB1.out, HR.out, by omega⟩
          case measure => simp [RowKit.intOf]; omega
      · rw [he] at C1
        replace HR := Lib.hid (show rowP (l.drop (j + 1)) y acc = rowP l y [] by rw [← HR.out]; simp [he])
        clear he
        go_wp2_with fail
        refine (C1 _).out.mono ?_
        rintro e w1 ⟨rfl, hb1⟩
        have HB1 := Lib.hid (HB.out.trans (hb1.mono HB.out.size))
        have HI1 := Lib.hid (hrel.out.1.below hb1)
        clear hb1 C1 t0 t1 t2 t3
        go_wp2_with fail
        go_roundw
        case rel => exact ⟨j + 1, acc, by omega, by go_num, HI1.out, HB1.out, HR.out, by omega⟩
        case measure => simp [RowKit.intOf]; omega
    · have q0 : (len : Int) ≤ (j : Int) := by omega
      have HDn := Lib.hid (show l.drop j = [] from List.drop_eq_nil_of_le (by rw [HN.out]; omega))
      go_wp2_with fail
      go_ret
      refine ⟨_, rfl, ?_, hrel.out.2.1⟩
      have e := hrel.out.2.2.1
      rw [HDn.out] at e
      rw [← e]
      exact hrel.out.1

def Mode (mode : Int) (op : Op2) : Prop := (mode = 1 ∧ op = fun x y => x || y) ∨ (mode = 2 ∧ op = fun x y => x && y) ∨ (mode = 3 ∧ op = fun x y => x && !y)

set_option maxRecDepth 100000 in
set_option maxHeartbeats 8000000 in
theorem merged_any {w : World} {va vb : Value} {a b : Runs} (h : Is w va (flat2 a)) (hu : Is w vb (flat2 b)) {mode : Int} {op : Op2} (hmo : Mode mode op) (hl : a.length + b.length ≤ 150000) :
    Calls Tryz.prog 96 #[va, vb, .int .i64 mode] w fun e w' => ∃ t, e = .returned t ∧ OwnI w' w.heap.size t (flat2 (mergedP op a b)) ∧ Below w.heap.size w w' := by
  have HA := Lib.hid h
  have HB0 := Lib.hid hu
  have HLL := Lib.hid hl
  obtain ⟨A, c, rfl, hc, hm, hcell⟩ := h
  obtain ⟨A', c', rfl, hc', hm', hcell'⟩ := hu
  simp only [maxLen] at hm hm'
  have HC := Lib.hid hcell
  have HC' := Lib.hid hcell'
  obtain ⟨n1, h1⟩ : ∃ n, (flat2 a).length = n := ⟨_, rfl⟩
  obtain ⟨n2, h2⟩ : ∃ n, (flat2 b).length = n := ⟨_, rfl⟩
  have hnn : n1 + n2 ≤ 300000 := by have := flat2_len a; have := flat2_len b; omega
  have HN := Lib.hid h1
  have HN' := Lib.hid h2
  rw [h1] at hc HA
  rw [h2] at hc' HB0
  rw [h1, h2]
  have HMO := Lib.hid hmo
  clear hcell hcell' h1 h2 hl hmo
  go_enter Tryz.func96, Tryz.ntmps96
  go_wp2_with fail
  go_loopw [7, 9] (fun t k wr => ∃ (j : Nat) (zs : List Int), j ≤ n1 ∧ k = .int .i64 (j : Int) ∧ Hid (Is wr t zs ∧ Below w.heap.size w wr ∧ insAll ((flat2 a).drop j) zs = insAll (flat2 a) [] ∧ zs.length ≤ 0 + j)) (fun _ k _ => n1 - (RowKit.intOf k).toNat)
  case atStart => exact ⟨0, [], by omega, rfl, is_nil _, Below.refl _ _, rfl, by simp⟩
  case round =>
    obtain ⟨j, zs, hj, rfl, hrel⟩ := hrel
    by_cases hlt : j < n1
    · obtain ⟨x, hx⟩ : ∃ x, (flat2 a)[j]? = some x := ⟨_, List.getElem?_eq_getElem (by rw [HN.out]; exact hlt)⟩
      obtain ⟨b, off, rfl, hb, hcs⟩ := HC.out (by rw [HN.out]; omega)
      have HB := Lib.hid hrel.out.2.1
      have t0 := (HB.out.cell (p := ⟨b, off + j, none⟩) hb).trans (hcs j x hx)
      have HD := Lib.hid (drop_at hx)
      have q0 : (j : Int) < n1 := by omega
      have q1 : (0 : Int) ≤ j := by omega
      have hz := hrel.out.2.2.2
      have hzl := insP_len x zs
      have HZ := Lib.hid hzl
      have hz2 : zs.length ≤ 1000000 := by omega
      clear hx hcs hzl
      go_wp2_with fail
      refine (insert_any hrel.out.1 x hz2).mono ?_
      rintro e w1 ⟨u1, rfl, ho1, hb1⟩
      have HI1 := Lib.hid ho1.is
      have HB1 := Lib.hid (HB.out.trans (hb1.mono HB.out.size))
      clear ho1 hb1 t0
      go_wp2_with fail
      go_roundw
      case rel => exact ⟨j + 1, insP x zs, by omega, by go_num, HI1.out, HB1.out, by rw [← hrel.out.2.2.1, HD.out]; rfl, by have := HZ.out; omega⟩
      case measure => simp [RowKit.intOf]; omega
    · have q0 : (n1 : Int) ≤ (j : Int) := by omega
      have HDn := Lib.hid (show (flat2 a).drop j = [] from List.drop_eq_nil_of_le (by rw [HN.out]; omega))
      obtain ⟨zp, hzp⟩ : ∃ z, z = insAll (flat2 a) [] := ⟨_, rfl⟩
      have HIp : Hid (Is wr u7 zp) := Lib.hid (by rw [hzp, ← hrel.out.2.2.1, HDn.out]; exact hrel.out.1)
      have HBp := Lib.hid hrel.out.2.1
      have HZp := Lib.hid hzp
      have hzlp : zp.length ≤ 0 + n1 := by
        have e : zp = zs := by rw [hzp, ← hrel.out.2.2.1, HDn.out]; rfl
        rw [e]; have := hrel.out.2.2.2; omega
      clear hzp hrel HDn
      go_wp2_with fail
      go_loopw [7, 10] (fun t k wr => ∃ (j : Nat) (zs : List Int), j ≤ n2 ∧ k = .int .i64 (j : Int) ∧ Hid (Is wr t zs ∧ Below w.heap.size w wr ∧ insAll ((flat2 b).drop j) zs = insAll (flat2 b) zp ∧ zs.length ≤ n1 + j)) (fun _ k _ => n2 - (RowKit.intOf k).toNat)
      case atStart => exact ⟨0, zp, by omega, rfl, HIp.out, HBp.out, rfl, by omega⟩
      case round =>
        obtain ⟨j, zs, hj, rfl, hrel⟩ := hrel
        by_cases hlt : j < n2
        · obtain ⟨x, hx⟩ : ∃ x, (flat2 b)[j]? = some x := ⟨_, List.getElem?_eq_getElem (by rw [HN'.out]; exact hlt)⟩
          obtain ⟨b, off, rfl, hb, hcs⟩ := HC'.out (by rw [HN'.out]; omega)
          have HB := Lib.hid hrel.out.2.1
          have t0 := (HB.out.cell (p := ⟨b, off + j, none⟩) hb).trans (hcs j x hx)
          have HD := Lib.hid (drop_at hx)
          have q0 : (j : Int) < n2 := by omega
          have q1 : (0 : Int) ≤ j := by omega
          have hz := hrel.out.2.2.2
          have hzl := insP_len x zs
          have HZ := Lib.hid hzl
          have hz2 : zs.length ≤ 1000000 := by omega
          clear hx hcs hzl
          go_wp2_with fail
          refine (insert_any hrel.out.1 x hz2).mono ?_
          rintro e w1 ⟨u1, rfl, ho1, hb1⟩
          have HI1 := Lib.hid ho1.is
          have HB1 := Lib.hid (HB.out.trans (hb1.mono HB.out.size))
          clear ho1 hb1 t0
          go_wp2_with fail
          go_roundw
          case rel => exact ⟨j + 1, insP x zs, by omega, by go_num, HI1.out, HB1.out, by rw [← hrel.out.2.2.1, HD.out]; rfl, by have := HZ.out; omega⟩
          case measure => simp [RowKit.intOf]; omega
        · have q0 : (n2 : Int) ≤ (j : Int) := by omega
          have HDn := Lib.hid (show (flat2 b).drop j = [] from List.drop_eq_nil_of_le (by rw [HN'.out]; omega))
          obtain ⟨zq, hzq⟩ : ∃ z, z = insAll (flat2 b) zp := ⟨_, rfl⟩
          have HIq : Hid (Is wr u7 zq) := Lib.hid (by rw [hzq, ← hrel.out.2.2.1, HDn.out]; exact hrel.out.1)
          have HBq := Lib.hid hrel.out.2.1
          have HZq := Lib.hid hzq
          have hzlq : zq.length ≤ n1 + n2 := by
            have e : zq = zs := by rw [hzq, ← hrel.out.2.2.1, HDn.out]; rfl
            rw [e]; have := hrel.out.2.2.2; omega
          clear hzq hrel HDn
          have HIw := HIq
          obtain ⟨Ax, cx, rfl, hcx, hmx, hcellx⟩ := HIq.out
          simp only [maxLen] at hmx
          have HCX := Lib.hid hcellx
          obtain ⟨n3, h3⟩ : ∃ n, zq.length = n := ⟨_, rfl⟩
          have HN3 := Lib.hid h3
          rw [h3] at hcx hzlq ⊢
          have HMG : Hid (mergeGo op a b (zq.drop 0) [] = mergedP op a b) := Lib.hid (by rw [List.drop_zero, HZq.out, HZp.out]; rfl)
          clear hcellx h3 HIq
          go_wp2_with fail
          obtain ⟨w3, rfl⟩ : ∃ w3, w3 = wr := ⟨_, rfl⟩
          have hl3 : n3 ≤ 300000 := by omega
          have HAw := Lib.hid (HA.out)
          clear hzlq hzlp
          go_loopw [8, 11] (fun t k wq => ∃ (j : Nat) (acc : Runs), k = .int .i64 (j : Int) ∧ j ≤ n3 ∧ Hid (OwnI wq w.heap.size t (flat2 acc) ∧ Below w3.heap.size w3 wq ∧ mergeGo op a b (zq.drop j) acc = mergedP op a b ∧ acc.length ≤ j)) (fun _ k _ => n3 - (RowKit.intOf k).toNat)
          case atStart => exact ⟨0, [], rfl, by omega, ownI_nil _ _, Below.refl _ _, HMG.out, by simp⟩
          case round =>
            obtain ⟨j, acc, rfl, hj, hrel⟩ := hrel
            have HB3 := Lib.hid hrel.out.2.1
            have HBw : Hid (Below w.heap.size w wr) := Lib.hid (HBq.out.trans (HB3.out.mono HBq.out.size))
            have hla := hrel.out.2.2.2
            by_cases hlt : j + 1 < n3
            · obtain ⟨x, hx⟩ : ∃ x, zq[j]? = some x := ⟨_, List.getElem?_eq_getElem (by rw [HN3.out]; omega)⟩
              obtain ⟨x', hx'⟩ : ∃ x', zq[j + 1]? = some x' := ⟨_, List.getElem?_eq_getElem (by rw [HN3.out]; omega)⟩
              obtain ⟨bb, off, rfl, hbb, hcs⟩ := HCX.out (by rw [HN3.out]; omega)
              have T0 := Lib.hid (hcs j x hx)
              have T1 := Lib.hid (hcs (j + 1) x' hx')
              have t0 := (HB3.out.cell (p := ⟨bb, off + j, none⟩) hbb).trans T0.out
              have t1 := (HB3.out.cell (p := ⟨bb, off + (j + 1), none⟩) hbb).trans T1.out
              have HD := Lib.hid (show zq.drop j = x :: x' :: zq.drop (j + 1 + 1) by rw [drop_at hx, drop_at hx'])
              have HD' := Lib.hid (drop_at hx')
              have q0 : (j : Int) + 1 < n3 := by omega
              have q1 : (0 : Int) ≤ j := by omega
              have q2 : (j : Int) < n3 := by omega
              have hbr : bb < wr.heap.size := Nat.lt_of_lt_of_le hbb HB3.out.size
              obtain ⟨ra, hra⟩ : ∃ ra, inR a x = ra := ⟨_, rfl⟩
              obtain ⟨rb, hrb⟩ : ∃ rb, inR b x = rb := ⟨_, rfl⟩
              have HR := Lib.hid (show mergeGo op a b (x' :: zq.drop (j + 1 + 1)) (if op ra rb then addP acc x x' else acc) = mergedP op a b by rw [← hrel.out.2.2.1, HD.out, mergeGo, hra, hrb])
              have CA : Hid (∀ W, Is W (.slice A n1 c) (flat2 a) → Calls Tryz.prog 111 #[.slice A n1 c, .int .i64 x] W fun e w' => e = .returned (.bool ra) ∧ Below W.heap.size W w') := Lib.hid (fun W hW => hra ▸ in_any hW x (by have := HLL.out; omega))
              have CB : Hid (∀ W, Is W (.slice A' n2 c') (flat2 b) → Calls Tryz.prog 111 #[.slice A' n2 c', .int .i64 x] W fun e w' => e = .returned (.bool rb) ∧ Below W.heap.size W w') := Lib.hid (fun W hW => hrb ▸ in_any hW x (by have := HLL.out; omega))
              have HIo := Lib.hid (show OwnI wr.drew w.heap.size u8 (flat2 acc) from World.ownsRow.drew hrel.out.1)
              have HIa := Lib.hid (show Is wr.drew (.slice A n1 c) (flat2 a) from (HA.out.below HBw.out.drew))
              have HIb := Lib.hid (show Is wr.drew (.slice A' n2 c') (flat2 b) from (HB0.out.below HBw.out.drew))
              have HBB := Lib.hid HB3.out.drew
              clear hx hx' hcs hra hrb hrel
              go_wp2_with fail
              have tokA : True := trivial
              have tokB : True := trivial
              have sk := t0
              have sk1 := t1
              go_region_held3 (fun W => W.cell? ⟨bb, off + j, none⟩ = some (.int .i64 x))
                (first
                  | go_keep
                  | exact sk)
                (first
                  | (go_at_call 111; have _t := tokA; (with_reducible refine (CA.out _ HIa.out).mono ?_); rintro e w4 ⟨rfl, hb4⟩; replace HIb := Lib.hid (HIb.out.below hb4); replace HIo := Lib.hid (HIo.out.below hb4); have sk' := (HBB.out.trans (hb4.mono HBB.out.size)).cell (p := ⟨bb, off + j, none⟩) hbb; replace HBB := Lib.hid (HBB.out.trans (hb4.mono HBB.out.size)); clear sk; have sk := sk'.trans T0.out; clear sk' tokA HIa hb4)
                  | (go_at_call 111; have _t := tokB; (with_reducible refine (CB.out _ HIb.out).mono ?_); rintro e w5 ⟨rfl, hb5⟩; (try replace HIa := Lib.hid (HIa.out.below hb5)); replace HIo := Lib.hid (HIo.out.below hb5); have sk' := (HBB.out.trans (hb5.mono HBB.out.size)).cell (p := ⟨bb, off + j, none⟩) hbb; replace HBB := Lib.hid (HBB.out.trans (hb5.mono HBB.out.size)); clear sk; have sk := sk'.trans T0.out; clear sk' tokB HIb hb5)
                  | fail)
              all_goals
                clear t1 sk1
                have t0 := sk
                have t1 := (HBB.out.cell (p := ⟨bb, off + (j + 1), none⟩) hbb).trans T1.out
                have hbq := Nat.lt_of_lt_of_le hbb HBB.out.size
                clear sk CA CB
                have HEND : Hid (∀ acc', acc'.length ≤ acc.length + 1 → (if op ra rb then addP acc x x' else acc) = acc' → mergeGo op a b (zq.drop (j + 1)) acc' = mergedP op a b) := Lib.hid (fun acc' _ e => by rw [HD'.out, ← e]; exact HR.out)
                clear HR HD HD'
                rcases HMO.out with ⟨rfl, rfl⟩ | ⟨rfl, rfl⟩ | ⟨rfl, rfl⟩ <;> cases ra <;> cases rb <;> (clear HMO; go_wp2_with fail)
              all_goals first
                | (replace HIo := Lib.hid (show OwnI _ _ _ _ from World.ownsRow.drew HIo.out)
                   replace HBB := Lib.hid HBB.out.drew
                   have f1 : IntKind.i64.wrap ((j : Int) + 1) = (j : Int) + 1 := IntWalk.i64_in _ (by omega)
                   have f2 : (0 : Int) ≤ (j : Int) + 1 := by omega
                   have f3 : ((j : Int) + 1).toNat = j + 1 := by omega
                   have hla2 : acc.length ≤ 400000 := by omega
                   go_region_held3 (fun W => W.cell? ⟨bb, off + j, none⟩ = some (.int .i64 x) ∧ W.cell? ⟨bb, off + (j + 1), none⟩ = some (.int .i64 x'))
                     (first
                       | go_keep
                       | exact sk)
                     (first
                       | (go_at_call 112; (with_reducible refine (add_any HIo.out.is x x' hla2).mono ?_); rintro e w6 ⟨u6, rfl, ho6, hb6⟩; have sk := And.intro ((hb6.cell (p := ⟨bb, off + j, none⟩) hbq).trans t0) ((hb6.cell (p := ⟨bb, off + (j + 1), none⟩) hbq).trans t1); have HI6 := Lib.hid (show OwnI _ w.heap.size _ _ from own_weaken ho6 (by have := HBB.out.size; have := HBq.out.size; omega)); have HB6 := Lib.hid (HBB.out.trans (hb6.mono HBB.out.size)); clear ho6 hb6)
                       | fail)
                   clear f1 f2 f3 sk t0 t1
                   have hal : (addP acc x x').length ≤ acc.length + 1 := by have := addGo_len acc [] x x' []; simpa [addP] using this
                   have HAL := Lib.hid hal
                   clear hal
                   go_wp2_with fail
                   go_roundw
                   case rel => exact ⟨j + 1, addP acc x x', by go_num, by omega, HI6.out, HB6.out, HEND.out _ HAL.out rfl, by have := HAL.out; omega⟩
                   case measure => simp [RowKit.intOf]; omega)
                | (go_roundw
                   case rel => exact ⟨j + 1, acc, by go_num, by omega, HIo.out, HBB.out, HEND.out _ (by omega) rfl, by omega⟩
                   case measure => simp [RowKit.intOf]; omega)
            · have q0 : (n3 : Int) ≤ (j : Int) + 1 := by omega
              have q1 : (0 : Int) ≤ j := by omega
              have e : mergedP op a b = acc := by
                rw [← hrel.out.2.2.1]
                by_cases e : j < n3
                · obtain ⟨x, hx⟩ : ∃ x, zq[j]? = some x := ⟨_, List.getElem?_eq_getElem (by rw [HN3.out]; exact e)⟩
                  rw [drop_at hx, List.drop_eq_nil_of_le (by rw [HN3.out]; omega)]
                  simp [mergeGo]
                · rw [List.drop_eq_nil_of_le (by rw [HN3.out]; omega)]
                  simp [mergeGo]
              have HIo : Hid (OwnI wr w.heap.size u8 (flat2 (mergedP op a b))) := Lib.hid (by rw [e]; exact hrel.out.1)
              clear e hrel
              go_wp2_with fail
              go_ret
              exact ⟨_, rfl, HIo.out, HBw.out⟩

theorem set_append_right' {α : Type} (s t : List α) (i n : Nat) (h : n = s.length) (x : α) : (s ++ t).set (n + i) x = s ++ t.set i x := by
  subst h
  have h := List.set_append_right (s := s) (t := t) (s.length + i) x (by omega)
  rw [h, Nat.add_sub_cancel_left]

theorem flat_set : ∀ (l : List R) (j : Nat) (r : R) (y : Int), l[j]? = some r →
    (flat l).set (j * 4) (.int .i64 y) = flat (l.set j ⟨y, r.y0, r.x1, r.y1⟩) ∧ (flat l).set (j * 4 + 2) (.int .i64 y) = flat (l.set j ⟨r.x0, r.y0, y, r.y1⟩) ∧ (flat l).set (j * 4 + 3) (.int .i64 y) = flat (l.set j ⟨r.x0, r.y0, r.x1, y⟩)
  | [], j, r, y, h => by simp at h
  | q :: l, 0, r, y, h => by
    simp only [List.getElem?_cons_zero, Option.some.injEq] at h
    subst h
    exact ⟨rfl, rfl, rfl⟩
  | q :: l, j + 1, r, y, h => by
    rw [List.getElem?_cons_succ] at h
    obtain ⟨h1, h2, h3⟩ := flat_set l j r y h
    have e : ∀ (q : R) (l : List R), flat (q :: l) = cells4 q ++ flat l := fun _ _ => rfl
    simp only [List.set_cons_succ, e]
    rw [show (j + 1) * 4 = 4 + j * 4 by omega, show 4 + j * 4 + 2 = 4 + (j * 4 + 2) by omega, show 4 + j * 4 + 3 = 4 + (j * 4 + 3) by omega, set_append_right' _ _ _ 4 rfl, set_append_right' _ _ _ 4 rfl, set_append_right' _ _ _ 4 rfl, h1, h2, h3]
    exact ⟨rfl, rfl, rfl⟩

theorem flatE_set : ∀ (l : List E) (j : Nat) (r : E) (a b : Int), l[j]? = some r → ((flatE l).set (j * 3 + 1) (.int .i64 a)).set (j * 3 + 2) (.int .i64 b) = flatE (l.set j ⟨r.x, a, b⟩)
  | [], j, r, a, b, h => by simp at h
  | q :: l, 0, r, a, b, h => by
    simp only [List.getElem?_cons_zero, Option.some.injEq] at h
    subst h
    rfl
  | q :: l, j + 1, r, a, b, h => by
    rw [List.getElem?_cons_succ] at h
    have h1 := flatE_set l j r a b h
    have e : ∀ (q : E) (l : List E), flatE (q :: l) = cells3 q ++ flatE l := fun _ _ => rfl
    simp only [List.set_cons_succ, e]
    rw [show (j + 1) * 3 + 1 = 3 + (j * 3 + 1) by omega, show (j + 1) * 3 + 2 = 3 + (j * 3 + 2) by omega, set_append_right' _ _ _ 3 rfl, set_append_right' _ _ _ 3 rfl, h1]

theorem owns_set {w : World} {base : Nat} {e : TypeId} {size g n cap : Nat} {xs : List Value} (h : w.ownsRow base e size (.slice (some ⟨g, 0, none⟩) n cap) n xs) (j : Nat) (u : Value) :
    (w.setCell ⟨g, j, none⟩ u).ownsRow base e size (.slice (some ⟨g, 0, none⟩) n cap) n (xs.set j u) := (h.stored j u).1

theorem grown_set (w : World) (g j : Nat) (u : Value) : w.grownBy (w.setCell ⟨g, j, none⟩ u) (some g) :=
  ⟨rfl, rfl, rfl, by simp, fun k _ hk => heap_setCell_other w ⟨g, j, none⟩ k u (fun e => hk (by simp [e]))⟩

theorem owns_far {w : World} {base : Nat} {e : TypeId} {size g n : Nat} {v : Value} {xs : List Value} (h : w.ownsRow base e size v n xs) (hg : v.ownBlock ≠ some g) (j : Nat) (u : Value) : (w.setCell ⟨g, j, none⟩ u).ownsRow base e size v n xs :=
  h.kept (grown_set w g j u) (.inr hg)

theorem owns_types {w : World} {base base' : Nat} {e e' : TypeId} {size size' : Nat} {u v : Value} {n n' : Nat} {xs ys : List Value} (hu : w.ownsRow base e size u n xs) (hv : w.ownsRow base' e' size' v n' ys) (hne : e ≠ e') : Apart u v := by
  rcases hu.2 with ⟨rfl, _⟩ | ⟨g, cap, cur, rfl, _, hg, _⟩
  · exact .inl rfl
  · rcases hv.2 with ⟨rfl, _⟩ | ⟨g', cap', cur', rfl, _, hg', _⟩
    · exact .inr (by simp [Value.ownBlock])
    · refine .inr fun e1 => ?_
      obtain rfl : g = g' := by simpa [Value.ownBlock] using e1
      rw [hg] at hg'
      simp at hg'
      exact hne hg'.2

theorem owns_shape {w : World} {base : Nat} {e : TypeId} {size : Nat} {v : Value} {n : Nat} {xs : List Value} (h : w.ownsRow base e size v n xs) (hn : 0 < n) : ∃ g cap, v = .slice (some ⟨g, 0, none⟩) n cap ∧ base ≤ g ∧ g < w.heap.size ∧ n ≤ cap ∧ cap ≤ maxLen := by
  rcases h.2 with ⟨_, h0⟩ | ⟨g, cap, cur, rfl, hb, hg, hnc, hcm, _⟩
  · omega
  · exact ⟨g, cap, rfl, hb, (Array.getElem?_eq_some_iff.1 hg).1, hnc, hcm⟩

theorem owns_cells {w : World} {base : Nat} {e : TypeId} {size g n cap : Nat} {xs : List Value} (h : w.ownsRow base e size (.slice (some ⟨g, 0, none⟩) n cap) n xs) : (∀ j u, xs[j]? = some u → w.cell? ⟨g, j, none⟩ = some u) ∧ ∀ j, w.frozen? ⟨g, j, none⟩ = false := by
  refine ⟨fun j u hj => ?_, fun j => h.frozenAt j⟩
  have hlt : j < n * size := by
    have h1 := (List.getElem?_eq_some_iff.1 hj).1
    have h2 := h.1
    omega
  rw [h.cellAt j hlt]
  exact hj

theorem OwnR.set_y1 {w : World} {base g cap n : Nat} {l : List R} (h : w.ownsRow base 53 4 (.slice (some ⟨g, 0, none⟩) n cap) n (flat l)) {j : Nat} {r : R} (hj : l[j]? = some r) (y : Int) :
    (w.setCell ⟨g, j * 4 + 3, none⟩ (.int .i64 y)).ownsRow base 53 4 (.slice (some ⟨g, 0, none⟩) n cap) n (flat (l.set j ⟨r.x0, r.y0, r.x1, y⟩)) := by
  rw [← (flat_set l j r y hj).2.2]
  exact owns_set h _ _

theorem OwnR.set_x1 {w : World} {base g cap n : Nat} {l : List R} (h : w.ownsRow base 53 4 (.slice (some ⟨g, 0, none⟩) n cap) n (flat l)) {j : Nat} {r : R} (hj : l[j]? = some r) (y : Int) :
    (w.setCell ⟨g, j * 4 + 2, none⟩ (.int .i64 y)).ownsRow base 53 4 (.slice (some ⟨g, 0, none⟩) n cap) n (flat (l.set j ⟨r.x0, r.y0, y, r.y1⟩)) := by
  rw [← (flat_set l j r y hj).2.1]
  exact owns_set h _ _

theorem OwnE.set_step {w : World} {base g cap n : Nat} {l : List E} (h : w.ownsRow base 129 3 (.slice (some ⟨g, 0, none⟩) n cap) n (flatE l)) {j : Nat} {r : E} (hj : l[j]? = some r) (a b : Int) :
    ((w.setCell ⟨g, j * 3 + 1, none⟩ (.int .i64 a)).setCell ⟨g, j * 3 + 2, none⟩ (.int .i64 b)).ownsRow base 129 3 (.slice (some ⟨g, 0, none⟩) n cap) n (flatE (l.set j ⟨r.x, a, b⟩)) := by
  rw [← flatE_set l j r a b hj]
  exact owns_set (owns_set h _ _) _ _

theorem OwnR.cells {w : World} {base g cap n : Nat} {l : List R} (h : w.ownsRow base 53 4 (.slice (some ⟨g, 0, none⟩) n cap) n (flat l)) {j : Nat} {r : R} (hj : l[j]? = some r) :
    (w.cell? ⟨g, j * 4, none⟩ = some (.int .i64 r.x0) ∧ w.cell? ⟨g, j * 4 + 1, none⟩ = some (.int .i64 r.y0) ∧ w.cell? ⟨g, j * 4 + 2, none⟩ = some (.int .i64 r.x1) ∧ w.cell? ⟨g, j * 4 + 3, none⟩ = some (.int .i64 r.y1)) ∧ ∀ i, w.frozen? ⟨g, i, none⟩ = false := by
  obtain ⟨h1, h2⟩ := owns_cells h
  obtain ⟨e0, e1, e2, e3⟩ := flat_at l j r hj
  exact ⟨⟨h1 _ _ e0, h1 _ _ e1, h1 _ _ e2, h1 _ _ e3⟩, h2⟩

theorem OwnE.cells {w : World} {base g cap n : Nat} {l : List E} (h : w.ownsRow base 129 3 (.slice (some ⟨g, 0, none⟩) n cap) n (flatE l)) {j : Nat} {r : E} (hj : l[j]? = some r) :
    (w.cell? ⟨g, j * 3, none⟩ = some (.int .i64 r.x) ∧ w.cell? ⟨g, j * 3 + 1, none⟩ = some (.int .i64 r.a) ∧ w.cell? ⟨g, j * 3 + 2, none⟩ = some (.int .i64 r.b)) ∧ ∀ i, w.frozen? ⟨g, i, none⟩ = false := by
  obtain ⟨h1, h2⟩ := owns_cells h
  obtain ⟨e0, e1, e2⟩ := flatE_at l j r hj
  exact ⟨⟨h1 _ _ e0, h1 _ _ e1, h1 _ _ e2⟩, h2⟩

theorem flat2_inj : ∀ {a b : Runs}, flat2 a = flat2 b → a = b
  | [], [], _ => rfl
  | [], _ :: _, h => by simp [flat2] at h
  | _ :: _, [], h => by simp [flat2] at h
  | (p, q) :: a, (r, s) :: b, h => by
    have e : ∀ (p : Int × Int) (l : Runs), flat2 (p :: l) = p.1 :: p.2 :: flat2 l := fun _ _ => rfl
    rw [e, e] at h
    simp only [List.cons.injEq] at h
    rw [h.1, h.2.1, flat2_inj h.2.2]

theorem Rs.drew {w : World} {v : Value} {l : List R} (h : Rs w v l) : Rs w.drew v l := h

def stripsAt (rr : Int → Runs) (zs : List Int) (j : Nat) : List Band :=
  match zs.drop j with
  | [] => []
  | y :: ys => stripsY rr y ys

theorem stripsAt_next {rr : Int → Runs} {zs : List Int} {j : Nat} {y y' : Int} (h : zs[j]? = some y) (h' : zs[j + 1]? = some y') : stripsAt rr zs j = if rr y = [] then stripsAt rr zs (j + 1) else (y, y', rr y) :: stripsAt rr zs (j + 1) := by
  unfold stripsAt
  rw [drop_at h, drop_at h']
  rfl

theorem stripsAt_last {rr : Int → Runs} {zs : List Int} {j : Nat} (h : zs.length ≤ j + 1) : stripsAt rr zs j = [] := by
  unfold stripsAt
  by_cases e : j < zs.length
  · obtain ⟨y, hy⟩ : ∃ y, zs[j]? = some y := ⟨_, List.getElem?_eq_getElem e⟩
    rw [drop_at hy, List.drop_eq_nil_of_le h]
    rfl
  · rw [List.drop_eq_nil_of_le (by omega)]

theorem stripsAt_head {rr : Int → Runs} {zs : List Int} {j : Nat} {y : Int} (hp : zs.Pairwise (· < ·)) (h : zs[j]? = some y) : ∀ p ∈ (stripsAt rr zs j).head?, y ≤ p.1 := by
  have hs : (zs.drop j).Pairwise (· < ·) := hp.sublist (List.drop_sublist _ _)
  unfold stripsAt
  rw [drop_at h] at hs ⊢
  exact stripsY_head hs

def CombRel (op : Op2) (a b : List R) (zs : List Int) (w1 wr : World) (uo ul : Value) (j : Nat) (D : List R) (cur : Band) : Prop :=
  OwnR wr w1.heap.size uo (D ++ bandR cur) ∧ OwnI wr w1.heap.size ul (flat2 cur.2.2) ∧ Below w1.heap.size w1 wr ∧ (cur.2.2 ≠ [] → zs[j]? = some cur.2.1) ∧ D ++ flatB (tailC cur (stripsAt (rrP op a b) zs j)) = combP op a b ∧ (D ++ bandR cur).length ≤ j * 1000

theorem ysP_lt {zs : List Int} {j : Nat} {x x' : Int} (hp : zs.Pairwise (· < ·)) (h : zs[j]? = some x) (h' : zs[j + 1]? = some x') : x < x' := by
  have hs : (zs.drop j).Pairwise (· < ·) := hp.sublist (List.drop_sublist _ _)
  rw [drop_at h, drop_at h'] at hs
  exact (List.pairwise_cons.1 hs).1 x' List.mem_cons_self

theorem comb_start (op : Op2) (a b : List R) : flatB (tailC (0, 0, []) (stripsAt (rrP op a b) (ysP a b) 0)) = combP op a b := by
  rw [tailC_start]
  unfold combP stripsAt regionP
  rw [List.drop_zero]
  cases ysP a b <;> rfl

set_option maxRecDepth 100000 in
set_option maxHeartbeats 8000000 in
theorem combined_any {w : World} {va vb : Value} {a b : List R} (h : Rs w va a) (hu : Rs w vb b) {mode : Int} {op : Op2} (hmo : Mode mode op) (hl : a.length + b.length ≤ 500) :
    Calls Tryz.prog 63 #[va, vb, .int .i64 mode] w fun e w' => ∃ t, e = .returned t ∧ OwnR w' w.heap.size t (combP op a b) ∧ Below w.heap.size w w' := by
  have HA := Lib.hid h
  have HB := Lib.hid hu
  have HL := Lib.hid hl
  obtain ⟨A, c, rfl, hc, hm, _⟩ := h
  obtain ⟨A', c', rfl, hc', hm', _⟩ := hu
  simp only [maxLen] at hm hm'
  obtain ⟨i0, hi, hz0, hz1, hz2⟩ := info_parts rect_info
  go_enter Tryz.func63, Tryz.ntmps63
  go_wp2_with fail
  refine (rows_any HA.out (is_nil w) (by simp; omega)).mono ?_
  rintro e w0 ⟨uy, rfl, hy, hb0⟩
  go_wp2_with fail
  refine (rows_any (HB.out.below hb0) hy (by have := rowsP_len a []; simp at this; omega)).mono ?_
  rintro e w1 ⟨uz, rfl, hz, hb1⟩
  have HBw := Lib.hid (hb0.trans (hb1.mono hb0.size))
  replace HA := Lib.hid ((HA.out.below hb0).below hb1)
  replace HB := Lib.hid ((HB.out.below hb0).below hb1)
  have hyl : (ysP a b).length ≤ 1000 := by have h1 := rowsP_len a []; have h2 := rowsP_len b (rowsP a []); simp at h1; unfold ysP; omega
  have HP := Lib.hid (ysP_inc a b)
  have HS := Lib.hid (comb_start op a b)
  clear hb0 hb1 hy
  change Is w1 uz (ysP a b) at hz
  generalize ysP a b = zs at *
  obtain ⟨Ay, cy, rfl, hcy, hmy, hcell⟩ := hz
  simp only [maxLen] at hmy
  have HC := Lib.hid hcell
  obtain ⟨n, hn⟩ : ∃ n, zs.length = n := ⟨_, rfl⟩
  have HN := Lib.hid hn
  rw [hn] at hcy hyl ⊢
  clear hcell hn
  go_wp2_with fail
  go_loopw [8, 9, 10, 11] (fun uo ul fr k wq => ∃ (j : Nat) (D : List R) (cur : Band), k = .int .i64 (j : Int) ∧ fr = .int .i64 (D.length : Int) ∧ j ≤ n ∧ Hid (CombRel op a b zs w1 wq uo ul j D cur)) (fun _ _ _ k _ => n - (RowKit.intOf k).toNat)
  case atStart => exact ⟨0, [], (0, 0, []), rfl, rfl, by omega, ownR_nil _ _, ownI_nil _ _, Below.refl _ _, fun e => absurd rfl e, HS.out, by simp [bandR]⟩
  case round =>
    obtain ⟨j, D, cur, rfl, rfl, hj, hrel⟩ := hrel
    have HB3 := Lib.hid hrel.out.2.2.1
    by_cases hlt : j + 1 < n
    · obtain ⟨x, hx⟩ : ∃ x, zs[j]? = some x := ⟨_, List.getElem?_eq_getElem (by rw [HN.out]; omega)⟩
      obtain ⟨x', hx'⟩ : ∃ x', zs[j + 1]? = some x' := ⟨_, List.getElem?_eq_getElem (by rw [HN.out]; omega)⟩
      obtain ⟨bb, off, rfl, hbb, hcs⟩ := HC.out (by rw [HN.out]; omega)
      have T0 := Lib.hid (hcs j x hx)
      have T1 := Lib.hid (hcs (j + 1) x' hx')
      have t0 := (HB3.out.cell (p := ⟨bb, off + j, none⟩) hbb).trans T0.out
      have q0 : (j : Int) + 1 < n := by omega
      have q1 : (0 : Int) ≤ j := by omega
      have q2 : (j : Int) < n := by omega
      have HX := Lib.hid hx
      have HX' := Lib.hid hx'
      have HAd := Lib.hid (show Rs wr.drew (.slice A a.length c) a from HA.out.below HB3.out.drew)
      have HBd := Lib.hid (show Rs wr.drew (.slice A' b.length c') b from HB.out.below HB3.out.drew)
      have HBB := Lib.hid HB3.out.drew
      have HO := Lib.hid (show OwnR wr.drew w1.heap.size u8 (D ++ bandR cur) from World.ownsRow.drew hrel.out.1)
      have HI := Lib.hid (show OwnI wr.drew w1.heap.size u9 (flat2 cur.2.2) from World.ownsRow.drew hrel.out.2.1)
      have CA : Hid (∀ W, Rs W (.slice A a.length c) a → Calls Tryz.prog 97 #[.slice A a.length c, .int .i64 x] W fun e w' => ∃ t, e = .returned t ∧ Is w' t (flat2 (rowP a x [])) ∧ Below W.heap.size W w') := Lib.hid (fun W hW => row_any hW x (by have := HL.out; omega))
      have CB : Hid (∀ W, Rs W (.slice A' b.length c') b → Calls Tryz.prog 97 #[.slice A' b.length c', .int .i64 x] W fun e w' => ∃ t, e = .returned t ∧ Is w' t (flat2 (rowP b x [])) ∧ Below W.heap.size W w') := Lib.hid (fun W hW => row_any hW x (by have := HL.out; omega))
      have HRL : Hid ((rowP a x []).length + (rowP b x []).length ≤ 150000) := Lib.hid (by have h1 := rowP_len a x []; have h2 := rowP_len b x []; simp at h1 h2; have := HL.out; omega)
      clear hx hx' hcs
      go_wp2_with fail
      have tokA : True := trivial
      have tokB : True := trivial
      have sk := t0
      go_region_held3 (fun W => W.cell? ⟨bb, off + j, none⟩ = some (.int .i64 x))
        (first
          | go_keep
          | exact sk)
        (first
          | (go_at_call 97; have _t := tokA; (with_reducible refine (CA.out _ HAd.out).mono ?_); rintro e w4 ⟨ta, rfl, hia, hb4⟩; have HIA := Lib.hid hia; (try replace HIB := Lib.hid (Is.below HIB.out hb4)); (try replace HBd := Lib.hid (HBd.out.below hb4)); replace HO := Lib.hid (show OwnR _ _ _ _ from own_below HO.out hb4); replace HI := Lib.hid (HI.out.below hb4); have sk' := (HBB.out.trans (hb4.mono HBB.out.size)).cell (p := ⟨bb, off + j, none⟩) hbb; replace HBB := Lib.hid (HBB.out.trans (hb4.mono HBB.out.size)); clear sk; have sk := sk'.trans T0.out; clear sk' tokA HAd hia hb4)
          | (go_at_call 97; have _t := tokB; (with_reducible refine (CB.out _ HBd.out).mono ?_); rintro e w5 ⟨tb, rfl, hib, hb5⟩; have HIB := Lib.hid hib; (try replace HIA := Lib.hid (Is.below HIA.out hb5)); (try replace HAd := Lib.hid (HAd.out.below hb5)); replace HO := Lib.hid (show OwnR _ _ _ _ from own_below HO.out hb5); replace HI := Lib.hid (HI.out.below hb5); have sk' := (HBB.out.trans (hb5.mono HBB.out.size)).cell (p := ⟨bb, off + j, none⟩) hbb; replace HBB := Lib.hid (HBB.out.trans (hb5.mono HBB.out.size)); clear sk; have sk := sk'.trans T0.out; clear sk' tokB HBd hib hb5)
          | (go_at_call 96; (with_reducible refine (merged_any HIA.out HIB.out hmo HRL.out).mono ?_); rintro e w6 ⟨tm, rfl, him, hb6⟩; have HIM := Lib.hid (show OwnI w6 w1.heap.size tm (flat2 (rrP op a b x)) from own_weaken him HBB.out.size); replace HO := Lib.hid (show OwnR _ _ _ _ from own_below HO.out hb6); replace HI := Lib.hid (HI.out.below hb6); have sk' := (HBB.out.trans (hb6.mono HBB.out.size)).cell (p := ⟨bb, off + j, none⟩) hbb; replace HBB := Lib.hid (HBB.out.trans (hb6.mono HBB.out.size)); clear sk; have sk := sk'.trans T0.out; clear sk' HIA HIB him hb6)
          | fail)
      all_goals
        have HREL := Lib.hid hrel.out
        clear hrel sk CA CB HRL
        obtain ⟨v, hv⟩ : ∃ v, rrP op a b x = v := ⟨_, rfl⟩
        rw [hv] at HIM
        have HNX := Lib.hid (show stripsAt (rrP op a b) zs j = if v = [] then stripsAt (rrP op a b) zs (j + 1) else (x, x', v) :: stripsAt (rrP op a b) zs (j + 1) from hv ▸ stripsAt_next HX.out HX'.out)
        have HVL : Hid (v.length ≤ 1000) := Lib.hid (by have := rrP_len op a b x; rw [hv] at this; have := HL.out; omega)
        have HF := Lib.hid (flat2_len v)
        have HXX : Hid (x < x') := Lib.hid (by have h1 := (ysP_lt HP.out HX.out HX'.out); exact h1)
        clear hv
        by_cases hw : v ≠ [] ∧ v = cur.2.2
        · obtain ⟨hv0, hvc⟩ := hw
          obtain ⟨lo, hi', vc⟩ := cur
          simp only at hvc
          subst hvc
          have hhi : hi' = x := by
            have h1 := HREL.out.2.2.2.1 hv0
            rw [HX.out] at h1
            exact (Option.some.inj h1).symm
          subst hhi
          have hvl : 0 < v.length := by cases v with
            | nil => exact absurd rfl hv0
            | cons p l => simp
          have HV0 := Lib.hid hv0
          have C5 : Hid (Calls Tryz.prog 98 #[tm, u9] w6 fun e w' => e = .returned (.bool true) ∧ Below w6.heap.size w6 w') := Lib.hid (by
            have h1 := sameRuns_any (HIM.out.is) (show OwnI w6 w1.heap.size u9 (flat2 v) from HI.out).is (by have := HVL.out; have := HF.out; omega)
            rwa [decide_eq_true (rfl : flat2 v = flat2 v)] at h1)
          obtain ⟨N, hN⟩ : ∃ N, (D ++ bandR (lo, hi', v)).length = N := ⟨_, rfl⟩
          have HNN := Lib.hid (show N = D.length + v.length by rw [← hN, List.length_append, bandR_len])
          have HO1 : Hid (w6.ownsRow w1.heap.size 53 4 u8 N (flat (D ++ bandR (lo, hi', v)))) := Lib.hid (by have h1 := HO.out; unfold OwnR at h1; rw [hN] at h1; exact h1)
          obtain ⟨g, cap, rfl, hg1, hg2, hg3, hg4⟩ := owns_shape HO1.out (by have := HNN.out; omega)
          obtain ⟨Am, cm, rfl, hcm1, hcm2, _⟩ := id HIM.out.is
          simp only [maxLen] at hg4 hcm2
          obtain ⟨fl, hfl⟩ : ∃ fl, (flat2 v).length = fl := ⟨_, rfl⟩
          have hflp : (0 : Int) < fl := by have := HF.out; omega
          rw [hfl] at hcm1 C5 ⊢
          have HM0 := Lib.hid (show (w6.ownsRow w1.heap.size 53 4 (.slice (some ⟨g, 0, none⟩) N cap) N (flat (mixB D lo hi' x' v 0))) by rw [mixB_start]; exact HO1.out)
          have HDL : Hid (D.length ≤ N) := Lib.hid (by have := HNN.out; omega)
          have HNB : Hid (N ≤ 1000000) := Lib.hid (by have h3 : (D ++ bandR (lo, hi', v)).length ≤ j * 1000 := HREL.out.2.2.2.2.2; rw [hN] at h3; omega)
          have hDN : D.length ≤ N := HDL.out
          have hNb := HNB.out
          clear hN hv0 hvl HO1 HO hfl
          go_wp2_with fail
          refine C5.out.mono ?_
          rintro e w7 ⟨rfl, hb7⟩
          replace HM0 := Lib.hid (own_below HM0.out hb7)
          replace HI := Lib.hid (HI.out.below hb7)
          replace HBB := Lib.hid (HBB.out.trans (hb7.mono HBB.out.size))
          have hg7 : g < w7.heap.size := Nat.lt_of_lt_of_le hg2 hb7.size
          clear hb7 C5 HIM
          go_wp2_with fail
          have hDi : (0 : Int) ≤ D.length := by omega
          go_loopw [13] (fun k wq => ∃ i K : Nat, k = .int .i64 (K : Int) ∧ K ≤ N ∧ Hid (K = D.length + i ∧ wq.ownsRow w1.heap.size 53 4 (.slice (some ⟨g, 0, none⟩) N cap) N (flat (mixB D lo hi' x' v i)) ∧ OwnI wq w1.heap.size u9 (flat2 v) ∧ Below w1.heap.size w1 wq)) (fun k _ => N - (RowKit.intOf k).toNat)
          case atStart => exact ⟨0, D.length, rfl, hDN, rfl, HM0.out, HI.out, HBB.out⟩
          case round =>
            obtain ⟨i, K, rfl, hK, hin⟩ := hrel
            by_cases hlt2 : K < N
            · obtain ⟨p, hp⟩ : ∃ p, v[i]? = some p := ⟨_, List.getElem?_eq_getElem (by have := hin.out.1; have := HNN.out; omega)⟩
              obtain ⟨m1, m2⟩ := mixB_at (D := D) (lo := lo) (y := hi') (y' := x') hp
              rw [← hin.out.1] at m1 m2
              obtain ⟨⟨c0, c1, c2, c3⟩, cf⟩ := OwnR.cells hin.out.2.1 m1
              have HS1 := Lib.hid (OwnR.set_y1 hin.out.2.1 m1 x')
              have HB4 := Lib.hid hin.out.2.2.2
              have t1 := (HB4.out.cell (p := ⟨bb, off + (j + 1), none⟩) hbb).trans T1.out
              have cfk := cf (K * 4 + 3)
              have q3 : (K : Int) < N := by omega
              have q4 : (0 : Int) ≤ K := by omega
              have HK := Lib.hid hin.out.1
              have HM2 := Lib.hid m2
              have HI4 := Lib.hid (owns_far hin.out.2.2.1 (by
                have h1 := owns_types hin.out.2.2.1 hin.out.2.1 (by decide)
                rcases h1 with h1 | h1
                · rw [h1]; simp
                · exact h1) (K * 4 + 3) (.int .i64 x'))
              clear hp m1 m2 cf hin c0 c1 c2
              go_wp2_with fail
              go_roundw
              case rel => exact ⟨i + 1, K + 1, by go_num, by omega, Lib.hid ⟨by have := HK.out; omega, by rw [← HM2.out]; exact HS1.out, HI4.out, HB4.out.setCell (p := ⟨g, K * 4 + 3, none⟩) hg1 _⟩⟩
              case measure => simp [RowKit.intOf]; omega
            · have q3 : (N : Int) ≤ K := by omega
              have HE : Hid (CombRel op a b zs w1 wr (.slice (some ⟨g, 0, none⟩) N cap) u9 (j + 1) D (lo, x', v)) := Lib.hid (by
                have h1 := hin.out.2.1
                rw [mixB_end D lo hi' x' v (by have := hin.out.1; have := HNN.out; omega)] at h1
                have hl : (D ++ bandR (lo, x', v)).length = N := by rw [List.length_append, bandR_len]; exact HNN.out.symm
                refine ⟨by unfold OwnR; rw [hl]; exact h1, hin.out.2.2.1, hin.out.2.2.2, fun _ => HX'.out, ?_, ?_⟩
                · have h2 := HREL.out.2.2.2.2.1
                  rw [HNX.out, if_neg HV0.out, tailC_merge HV0.out] at h2
                  exact h2
                · have h3 := HREL.out.2.2.2.2.2
                  rw [List.length_append, bandR_len] at h3
                  simp only at h3
                  have := HNN.out
                  omega)
              clear hin
              go_wp2_with fail
              go_roundw
              case rel => exact ⟨j + 1, D, (lo, x', v), by go_num, rfl, by omega, HE.out⟩
              case measure => simp [RowKit.intOf]; omega
        · have HW := Lib.hid hw
          obtain ⟨D', hD'⟩ : ∃ D', D ++ bandR cur = D' := ⟨_, rfl⟩
          have HD' := Lib.hid hD'
          have HO1 := HO
          rw [hD'] at HO1
          have HREL2 : Hid (D'.length ≤ j * 1000) := Lib.hid (by have h3 : (D ++ bandR cur).length ≤ j * 1000 := HREL.out.2.2.2.2.2; rw [hD'] at h3; exact h3)
          have hDb : D'.length ≤ 1000000 := by have := HREL2.out; omega
          obtain ⟨Ao, co, rfl, hco1, hco2, _⟩ := id (OwnR.rs HO1.out)
          obtain ⟨Am, cm, rfl, hcm1, hcm2, _⟩ := id HIM.out.is
          obtain ⟨Al, cl, rfl, hcl1, hcl2, _⟩ := id HI.out.is
          simp only [maxLen] at hco2 hcm2 hcl2
          obtain ⟨fl, hfl⟩ : ∃ fl, (flat2 v).length = fl := ⟨_, rfl⟩
          obtain ⟨gl, hgl⟩ : ∃ gl, (flat2 cur.2.2).length = gl := ⟨_, rfl⟩
          have HFL := Lib.hid hfl
          have HFV : Hid (fl = 2 * v.length) := Lib.hid (by rw [← hfl]; exact HF.out)
          have hflb : fl ≤ 2000 := by have := HFV.out; have := HVL.out; omega
          have C5 : Hid (v ≠ [] → Calls Tryz.prog 98 #[.slice Am fl cm, .slice Al gl cl] w6 fun e w' => e = .returned (.bool false) ∧ Below w6.heap.size w6 w') := Lib.hid (fun hv0 => by
            have h1 := sameRuns_any (HIM.out.is) (HI.out.is) ⟨by rw [hfl]; omega, by
              have h2 : (D ++ bandR cur).length ≤ j * 1000 := HREL.out.2.2.2.2.2
              rw [List.length_append, bandR_len] at h2
              have h3 := flat2_len cur.2.2
              have := HN.out
              omega⟩
            rw [hfl, hgl] at h1
            have h4 : decide (flat2 v = flat2 cur.2.2) = false := decide_eq_false (fun e => HW.out ⟨hv0, flat2_inj e⟩)
            rw [h4] at h1
            exact h1)
          have HIM2 : Hid (w6.ownsRow w1.heap.size 3 1 (.slice Am fl cm) fl (ints (flat2 v))) := Lib.hid (by have h1 := HIM.out; unfold OwnI at h1; rw [hfl] at h1; exact h1)
          rw [hfl, hgl]
          rw [hfl] at hcm1
          rw [hgl] at hcl1
          clear hfl hgl hw hD' HO
          have key : Hid (∀ w7, Below w6.heap.size w6 w7 → w7.ownsRow w1.heap.size 53 4 (.slice Ao D'.length co) D'.length (flat D') ∧ w7.ownsRow w1.heap.size 3 1 (.slice Am fl cm) fl (ints (flat2 v)) ∧ Below w1.heap.size w1 w7) := Lib.hid (fun w7 hb7 => ⟨own_below HO1.out hb7, own_below HIM2.out hb7, HBB.out.trans (hb7.mono HBB.out.size)⟩)
          clear HO1 HIM2 HIM HI HBB
          have fin : Hid (∀ (wq : World) (uo : Value), OwnR wq w1.heap.size uo (D' ++ bandR (x, x', v)) → OwnI wq w1.heap.size (.slice Am fl cm) (flat2 v) → Below w1.heap.size w1 wq → CombRel op a b zs w1 wq uo (.slice Am fl cm) (j + 1) D' (x, x', v)) := Lib.hid (fun wq uo h1 h2 h3 => by
            refine ⟨h1, h2, h3, fun _ => HX'.out, ?_, ?_⟩
            · rw [← HREL.out.2.2.2.2.1, HNX.out]
              by_cases hv0 : v = []
              · rw [if_pos hv0, ← HD'.out, List.append_assoc, hv0]
                rw [← tailC_gap (cur := cur) x x' (fun hc p hp => by
                  have h4 := HREL.out.2.2.2.1 hc
                  rw [HX.out] at h4
                  have h5 := stripsAt_head HP.out HX'.out p hp
                  have h6 := Option.some.inj h4
                  have := HXX.out
                  omega)]
              · rw [if_neg hv0, tailC_new hv0 (fun e => HW.out ⟨hv0, e.2.symm⟩), ← HD'.out, List.append_assoc]
            · rw [List.length_append, bandR_len]
              have := HREL2.out
              have := HVL.out
              simp only
              omega)
          by_cases hv0 : v = []
          · have e0 : fl = 0 := by rw [HFV.out, hv0]; rfl
            have q9 : ¬ (0 : Int) < fl := by omega
            clear C5 hv0 e0
            have HST := Lib.hid (key.out w6 (Below.refl _ _))
            clear key
            go_wp2_with fail
            go_loopw [8, 14] (fun uo k wq => ∃ i K : Nat, k = .int .i64 (K : Int) ∧ K ≤ fl ∧ Hid (K = 2 * i ∧ OwnR wq w1.heap.size uo (D' ++ (bandR (x, x', v)).take i) ∧ wq.ownsRow w1.heap.size 3 1 (.slice Am fl cm) fl (ints (flat2 v)) ∧ Below w1.heap.size w1 wq)) (fun _ k _ => fl - (RowKit.intOf k).toNat)
            case atStart => exact ⟨0, 0, rfl, by omega, rfl, by rw [List.take_zero, List.append_nil]; exact HST.out.1, HST.out.2.1, HST.out.2.2⟩
            case round =>
              obtain ⟨i, K, rfl, hK, hin⟩ := hrel
              by_cases hlt2 : K < fl
              · have hi2 : i < v.length := by have := hin.out.1; have := HFV.out; omega
                have hK1 : K + 1 < fl := by have := hin.out.1; have := HFV.out; omega
                obtain ⟨p, hp⟩ : ∃ p, v[i]? = some p := ⟨_, List.getElem?_eq_getElem hi2⟩
                have hf := flat2_at hp
                rw [← hin.out.1] at hf
                obtain ⟨gm, capm, em, hgm1, hgm2, _, _⟩ := owns_shape hin.out.2.2.1 (by omega)
                injection em with em1 em2 em3
                subst em1 em3
                obtain ⟨oc, _⟩ := owns_cells hin.out.2.2.1
                have HB4 := Lib.hid hin.out.2.2.2
                have t0 := (HB4.out.cell (p := ⟨bb, off + j, none⟩) hbb).trans T0.out
                have t1 := (HB4.out.cell (p := ⟨bb, off + (j + 1), none⟩) hbb).trans T1.out
                have HF2 := Lib.hid (show (ints (flat2 v))[K]? = some (.int .i64 p.1) by rw [List.getElem?_map, hf.1]; rfl)
                have HF3 := Lib.hid (show (ints (flat2 v))[K + 1]? = some (.int .i64 p.2) by rw [List.getElem?_map, hf.2]; rfl)
                have t2 := oc K _ HF2.out
                have t3 := oc (K + 1) _ HF3.out
                have HBT := Lib.hid (show (bandR (x, x', v)).take (i + 1) = (bandR (x, x', v)).take i ++ [⟨p.1, x, p.2, x'⟩] by rw [List.take_add_one, bandR_at hp]; rfl)
                have HK := Lib.hid hin.out.1
                have HOr := hin.out.2.1
                have HMr := hin.out.2.2.1
                have HAP := Lib.hid (owns_types HMr HOr (by decide))
                have hln : (D' ++ (bandR (x, x', v)).take i).length ≤ 1100000 := by
                  rw [List.length_append, List.length_take, bandR_len]
                  have := HVL.out
                  simp only
                  omega
                have q3 : (K : Int) + 1 < fl := by omega
                have q4 : (0 : Int) ≤ K := by omega
                have q5 : (K : Int) < fl := by omega
                have hszw := HB4.out.size
                clear hp hf hin oc
                obtain ⟨pa, pb⟩ := p
                simp only at t2 t3 HBT HF2 HF3
                go_wp2_with fail
                have f1 : IntKind.i64.wrap ((j : Int) + 1) = (j : Int) + 1 := IntWalk.i64_in _ (by omega)
                have f2 : (0 : Int) ≤ (j : Int) + 1 := by omega
                have f3 : ((j : Int) + 1).toNat = j + 1 := by omega
                have f4 : IntKind.i64.wrap ((K : Int) + 1) = (K : Int) + 1 := IntWalk.i64_in _ (by omega)
                have f5 : (0 : Int) ≤ (K : Int) + 1 := by omega
                have f6 : ((K : Int) + 1).toNat = K + 1 := by omega
                go_region_held3 (fun W => W.cell? ⟨bb, off + j, none⟩ = some (.int .i64 x) ∧ W.cell? ⟨bb, off + (j + 1), none⟩ = some (.int .i64 x') ∧ W.cell? ⟨gm, K, none⟩ = some (.int .i64 pa) ∧ W.cell? ⟨gm, K + 1, none⟩ = some (.int .i64 pb))
                  (first
                    | go_keep
                    | exact s1)
                  (first
                    | (refine step_appR (by rfl) _ _ (by rfl) (base := w1.heap.size) (l := D' ++ (bandR (x, x', v)).take i) (m := [⟨pa, x, pb, x'⟩]) (by rfl) (World.ownsRow.drew (World.ownsRow.alloc HOr _)) (by rfl) (rs_one wr ⟨pa, x, pb, x'⟩).drew (by simp only [List.length_singleton]; omega) (by simp; omega) ?_; intro v8 w8 ho8 hg8 hl8 _; have hbb8 := below_grown0 (HB4.out.alloc hszw _).drew (by simp; omega) (Nat.le_refl _) ((World.ownsRow.alloc HOr _).drew) hg8; have hm8 := (own_else0 ((World.ownsRow.alloc HMr _).drew) hg8 HAP.out hl8).1; have oc8 := (owns_cells hm8).1; have s1 := And.intro ((hbb8.cell (p := ⟨bb, off + j, none⟩) hbb).trans T0.out) (And.intro ((hbb8.cell (p := ⟨bb, off + (j + 1), none⟩) hbb).trans T1.out) (And.intro (oc8 K _ HF2.out) (oc8 (K + 1) _ HF3.out)))))
                clear f1 f2 f3 f4 f5 f6
                have HO8 := Lib.hid ho8
                have HM8 := Lib.hid hm8
                have HB8 := Lib.hid hbb8
                clear ho8 hm8 hbb8 hg8 hl8 s1 oc8 t0 t1 t2 t3 HOr HMr hln
                go_wp2_with fail
                go_roundw
                case rel => exact ⟨i + 1, K + 2, by go_num, by omega, Lib.hid ⟨by have := HK.out; omega, by rw [HBT.out, ← List.append_assoc]; exact HO8.out, HM8.out, HB8.out⟩⟩
                case measure => simp [RowKit.intOf]; omega
              · have q3 : (fl : Int) ≤ K := by omega
                have HE : Hid (CombRel op a b zs w1 wr u8 (.slice Am fl cm) (j + 1) D' (x, x', v)) := Lib.hid (fin.out wr u8 (by
                  have h1 := hin.out.2.1
                  rw [List.take_of_length_le (by rw [bandR_len]; have := hin.out.1; have := HFV.out; simp only; omega)] at h1
                  exact h1) (by
                  have h1 := hin.out.2.2.1
                  unfold OwnI
                  rw [HFL.out]
                  exact h1) hin.out.2.2.2)
                clear hin
                go_wp2_with fail
                go_roundw
                case rel => exact ⟨j + 1, D', (x, x', v), by go_num, rfl, by omega, HE.out⟩
                case measure => simp [RowKit.intOf]; omega
          · have q9 : (0 : Int) < fl := by
              have := HFV.out
              cases v with
              | nil => exact absurd rfl hv0
              | cons p l => simp at this; omega
            have C6 := Lib.hid (C5.out hv0)
            clear C5 hv0
            go_wp2_with fail
            refine C6.out.mono ?_
            rintro e w7 ⟨rfl, hb7⟩
            clear C6
            have HST := Lib.hid (key.out w7 hb7)
            clear key
            go_wp2_with fail
            go_loopw [8, 14] (fun uo k wq => ∃ i K : Nat, k = .int .i64 (K : Int) ∧ K ≤ fl ∧ Hid (K = 2 * i ∧ OwnR wq w1.heap.size uo (D' ++ (bandR (x, x', v)).take i) ∧ wq.ownsRow w1.heap.size 3 1 (.slice Am fl cm) fl (ints (flat2 v)) ∧ Below w1.heap.size w1 wq)) (fun _ k _ => fl - (RowKit.intOf k).toNat)
            case atStart => exact ⟨0, 0, rfl, by omega, rfl, by rw [List.take_zero, List.append_nil]; exact HST.out.1, HST.out.2.1, HST.out.2.2⟩
            case round =>
              obtain ⟨i, K, rfl, hK, hin⟩ := hrel
              by_cases hlt2 : K < fl
              · have hi2 : i < v.length := by have := hin.out.1; have := HFV.out; omega
                have hK1 : K + 1 < fl := by have := hin.out.1; have := HFV.out; omega
                obtain ⟨p, hp⟩ : ∃ p, v[i]? = some p := ⟨_, List.getElem?_eq_getElem hi2⟩
                have hf := flat2_at hp
                rw [← hin.out.1] at hf
                obtain ⟨gm, capm, em, hgm1, hgm2, _, _⟩ := owns_shape hin.out.2.2.1 (by omega)
                injection em with em1 em2 em3
                subst em1 em3
                obtain ⟨oc, _⟩ := owns_cells hin.out.2.2.1
                have HB4 := Lib.hid hin.out.2.2.2
                have t0 := (HB4.out.cell (p := ⟨bb, off + j, none⟩) hbb).trans T0.out
                have t1 := (HB4.out.cell (p := ⟨bb, off + (j + 1), none⟩) hbb).trans T1.out
                have HF2 := Lib.hid (show (ints (flat2 v))[K]? = some (.int .i64 p.1) by rw [List.getElem?_map, hf.1]; rfl)
                have HF3 := Lib.hid (show (ints (flat2 v))[K + 1]? = some (.int .i64 p.2) by rw [List.getElem?_map, hf.2]; rfl)
                have t2 := oc K _ HF2.out
                have t3 := oc (K + 1) _ HF3.out
                have HBT := Lib.hid (show (bandR (x, x', v)).take (i + 1) = (bandR (x, x', v)).take i ++ [⟨p.1, x, p.2, x'⟩] by rw [List.take_add_one, bandR_at hp]; rfl)
                have HK := Lib.hid hin.out.1
                have HOr := hin.out.2.1
                have HMr := hin.out.2.2.1
                have HAP := Lib.hid (owns_types HMr HOr (by decide))
                have hln : (D' ++ (bandR (x, x', v)).take i).length ≤ 1100000 := by
                  rw [List.length_append, List.length_take, bandR_len]
                  have := HVL.out
                  simp only
                  omega
                have q3 : (K : Int) + 1 < fl := by omega
                have q4 : (0 : Int) ≤ K := by omega
                have q5 : (K : Int) < fl := by omega
                have hszw := HB4.out.size
                clear hp hf hin oc
                obtain ⟨pa, pb⟩ := p
                simp only at t2 t3 HBT HF2 HF3
                go_wp2_with fail
                have f1 : IntKind.i64.wrap ((j : Int) + 1) = (j : Int) + 1 := IntWalk.i64_in _ (by omega)
                have f2 : (0 : Int) ≤ (j : Int) + 1 := by omega
                have f3 : ((j : Int) + 1).toNat = j + 1 := by omega
                have f4 : IntKind.i64.wrap ((K : Int) + 1) = (K : Int) + 1 := IntWalk.i64_in _ (by omega)
                have f5 : (0 : Int) ≤ (K : Int) + 1 := by omega
                have f6 : ((K : Int) + 1).toNat = K + 1 := by omega
                go_region_held3 (fun W => W.cell? ⟨bb, off + j, none⟩ = some (.int .i64 x) ∧ W.cell? ⟨bb, off + (j + 1), none⟩ = some (.int .i64 x') ∧ W.cell? ⟨gm, K, none⟩ = some (.int .i64 pa) ∧ W.cell? ⟨gm, K + 1, none⟩ = some (.int .i64 pb))
                  (first
                    | go_keep
                    | exact s1)
                  (first
                    | (refine step_appR (by rfl) _ _ (by rfl) (base := w1.heap.size) (l := D' ++ (bandR (x, x', v)).take i) (m := [⟨pa, x, pb, x'⟩]) (by rfl) (World.ownsRow.drew (World.ownsRow.alloc HOr _)) (by rfl) (rs_one wr ⟨pa, x, pb, x'⟩).drew (by simp only [List.length_singleton]; omega) (by simp; omega) ?_; intro v8 w8 ho8 hg8 hl8 _; have hbb8 := below_grown0 (HB4.out.alloc hszw _).drew (by simp; omega) (Nat.le_refl _) ((World.ownsRow.alloc HOr _).drew) hg8; have hm8 := (own_else0 ((World.ownsRow.alloc HMr _).drew) hg8 HAP.out hl8).1; have oc8 := (owns_cells hm8).1; have s1 := And.intro ((hbb8.cell (p := ⟨bb, off + j, none⟩) hbb).trans T0.out) (And.intro ((hbb8.cell (p := ⟨bb, off + (j + 1), none⟩) hbb).trans T1.out) (And.intro (oc8 K _ HF2.out) (oc8 (K + 1) _ HF3.out)))))
                clear f1 f2 f3 f4 f5 f6
                have HO8 := Lib.hid ho8
                have HM8 := Lib.hid hm8
                have HB8 := Lib.hid hbb8
                clear ho8 hm8 hbb8 hg8 hl8 s1 oc8 t0 t1 t2 t3 HOr HMr hln
                go_wp2_with fail
                go_roundw
                case rel => exact ⟨i + 1, K + 2, by go_num, by omega, Lib.hid ⟨by have := HK.out; omega, by rw [HBT.out, ← List.append_assoc]; exact HO8.out, HM8.out, HB8.out⟩⟩
                case measure => simp [RowKit.intOf]; omega
              · have q3 : (fl : Int) ≤ K := by omega
                have HE : Hid (CombRel op a b zs w1 wr u8 (.slice Am fl cm) (j + 1) D' (x, x', v)) := Lib.hid (fin.out wr u8 (by
                  have h1 := hin.out.2.1
                  rw [List.take_of_length_le (by rw [bandR_len]; have := hin.out.1; have := HFV.out; simp only; omega)] at h1
                  exact h1) (by
                  have h1 := hin.out.2.2.1
                  unfold OwnI
                  rw [HFL.out]
                  exact h1) hin.out.2.2.2)
                clear hin
                go_wp2_with fail
                go_roundw
                case rel => exact ⟨j + 1, D', (x, x', v), by go_num, rfl, by omega, HE.out⟩
                case measure => simp [RowKit.intOf]; omega
    · have q0 : (n : Int) ≤ (j : Int) + 1 := by omega
      have q1 : (0 : Int) ≤ j := by omega
      have HO : Hid (OwnR wr w1.heap.size u8 (combP op a b)) := Lib.hid (by
        rw [← hrel.out.2.2.2.2.1, stripsAt_last (by rw [HN.out]; omega), tailC_end]
        exact hrel.out.1)
      clear hrel
      go_wp2_with fail
      go_ret
      exact ⟨_, rfl, own_weaken HO.out HBw.out.size, HBw.out.trans (HB3.out.mono HBw.out.size)⟩

end Go.Proofs.YthedglfocjljjaaGreatDoor.Rgn
