/-
  merged of the reference: the runs of two rows combined.
-/
import Derived.Test.YtclnepijbnhdfaaRrow
namespace Go.Proofs.Ytclnepijbnhdfaa
open Go.RowKit

/-- the reference's modes -/
def Mode (mode : Int) (op : Op2) : Prop := (mode = 1 ∧ op = fun x y => x || y) ∨ (mode = 2 ∧ op = fun x y => x && y) ∨ (mode = 3 ∧ op = fun x y => x && !y)

set_option maxRecDepth 100000 in
set_option maxHeartbeats 8000000 in
theorem merged_any {w : World} {va vb : Value} {a b : Runs} (h : Is w va (flat2 a)) (hu : Is w vb (flat2 b)) {mode : Int} {op : Op2} (hmo : Mode mode op) (hl : a.length + b.length ≤ 150000) :
    Calls Try.prog 52 #[va, vb, .int .i64 mode] w fun e w' => ∃ t, e = .returned t ∧ OwnI w' w.heap.size t (flat2 (mergedP op a b)) ∧ Below w.heap.size w w' := by
  have HA := Lib.hid h
  have HB0 := Lib.hid hu
  have HLL := Lib.hid hl
  obtain ⟨A, c, rfl, hc, hm, hcell⟩ := h
  obtain ⟨A', c', rfl, hc', hm', hcell'⟩ := hu
  simp only [maxLen] at hm hm'
  have HC := Lib.hid hcell
  have HC' := Lib.hid hcell'
  obtain ⟨n1, h1⟩ : ∃ n, (flat2 a).length = n := ⟨_, rfl⟩
  obtain ⟨n2, h2⟩ : ∃ n, (flat2 b).length = n := ⟨_, rfl⟩
  have hnn : n1 + n2 ≤ 300000 := by have := flat2_len a; have := flat2_len b; omega
  have HN := Lib.hid h1
  have HN' := Lib.hid h2
  rw [h1] at hc HA
  rw [h2] at hc' HB0
  rw [h1, h2]
  have HMO := Lib.hid hmo
  clear hcell hcell' h1 h2 hl hmo
  go_enter Try.func52, Try.ntmps52
  go_wp2_with fail
  go_loopw [7, 9] (fun t k wr => ∃ (j : Nat) (zs : List Int), j ≤ n1 ∧ k = .int .i64 (j : Int) ∧ Hid (Is wr t zs ∧ Below w.heap.size w wr ∧ insAll ((flat2 a).drop j) zs = insAll (flat2 a) [] ∧ zs.length ≤ 0 + j)) (fun _ k _ => n1 - (intOf k).toNat)
  case atStart => exact ⟨0, [], by omega, rfl, is_nil _, Below.refl _ _, rfl, by simp⟩
  case round =>
    obtain ⟨j, zs, hj, rfl, hrel⟩ := hrel
    by_cases hlt : j < n1
    · obtain ⟨x, hx⟩ : ∃ x, (flat2 a)[j]? = some x := ⟨_, List.getElem?_eq_getElem (by rw [HN.out]; exact hlt)⟩
      obtain ⟨b, off, rfl, hb, hcs⟩ := HC.out (by rw [HN.out]; omega)
      have HB := Lib.hid hrel.out.2.1
      have t0 := (HB.out.cell (p := ⟨b, off + j, none⟩) hb).trans (hcs j x hx)
      have HD := Lib.hid (drop_at hx)
      have q0 : (j : Int) < n1 := by omega
      have q1 : (0 : Int) ≤ j := by omega
      have hz := hrel.out.2.2.2
      have hzl := insP_len x zs
      have HZ := Lib.hid hzl
      have hz2 : zs.length ≤ 1000000 := by omega
      clear hx hcs hzl
      go_wp2_with fail
      refine (insert_any hrel.out.1 x hz2).mono ?_
      rintro e w1 ⟨u1, rfl, ho1, hb1⟩
      have HI1 := Lib.hid ho1.is
      have HB1 := Lib.hid (HB.out.trans (hb1.mono HB.out.size))
      clear ho1 hb1 t0
      go_wp2_with fail
      go_roundw
      case rel => exact ⟨j + 1, insP x zs, by omega, by go_num, HI1.out, HB1.out, by rw [← hrel.out.2.2.1, HD.out]; rfl, by have := HZ.out; omega⟩
      case measure => simp [intOf]; omega
    · have q0 : (n1 : Int) ≤ (j : Int) := by omega
      have HDn := Lib.hid (show (flat2 a).drop j = [] from List.drop_eq_nil_of_le (by rw [HN.out]; omega))
      obtain ⟨zp, hzp⟩ : ∃ z, z = insAll (flat2 a) [] := ⟨_, rfl⟩
      have HIp : Hid (Is wr u7 zp) := Lib.hid (by rw [hzp, ← hrel.out.2.2.1, HDn.out]; exact hrel.out.1)
      have HBp := Lib.hid hrel.out.2.1
      have HZp := Lib.hid hzp
      have hzlp : zp.length ≤ 0 + n1 := by
        have e : zp = zs := by rw [hzp, ← hrel.out.2.2.1, HDn.out]; rfl
        rw [e]; have := hrel.out.2.2.2; omega
      clear hzp hrel HDn
      go_wp2_with fail
      go_loopw [7, 10] (fun t k wr => ∃ (j : Nat) (zs : List Int), j ≤ n2 ∧ k = .int .i64 (j : Int) ∧ Hid (Is wr t zs ∧ Below w.heap.size w wr ∧ insAll ((flat2 b).drop j) zs = insAll (flat2 b) zp ∧ zs.length ≤ n1 + j)) (fun _ k _ => n2 - (intOf k).toNat)
      case atStart => exact ⟨0, zp, by omega, rfl, HIp.out, HBp.out, rfl, by omega⟩
      case round =>
        obtain ⟨j, zs, hj, rfl, hrel⟩ := hrel
        by_cases hlt : j < n2
        · obtain ⟨x, hx⟩ : ∃ x, (flat2 b)[j]? = some x := ⟨_, List.getElem?_eq_getElem (by rw [HN'.out]; exact hlt)⟩
          obtain ⟨b, off, rfl, hb, hcs⟩ := HC'.out (by rw [HN'.out]; omega)
          have HB := Lib.hid hrel.out.2.1
          have t0 := (HB.out.cell (p := ⟨b, off + j, none⟩) hb).trans (hcs j x hx)
          have HD := Lib.hid (drop_at hx)
          have q0 : (j : Int) < n2 := by omega
          have q1 : (0 : Int) ≤ j := by omega
          have hz := hrel.out.2.2.2
          have hzl := insP_len x zs
          have HZ := Lib.hid hzl
          have hz2 : zs.length ≤ 1000000 := by omega
          clear hx hcs hzl
          go_wp2_with fail
          refine (insert_any hrel.out.1 x hz2).mono ?_
          rintro e w1 ⟨u1, rfl, ho1, hb1⟩
          have HI1 := Lib.hid ho1.is
          have HB1 := Lib.hid (HB.out.trans (hb1.mono HB.out.size))
          clear ho1 hb1 t0
          go_wp2_with fail
          go_roundw
          case rel => exact ⟨j + 1, insP x zs, by omega, by go_num, HI1.out, HB1.out, by rw [← hrel.out.2.2.1, HD.out]; rfl, by have := HZ.out; omega⟩
          case measure => simp [intOf]; omega
        · have q0 : (n2 : Int) ≤ (j : Int) := by omega
          have HDn := Lib.hid (show (flat2 b).drop j = [] from List.drop_eq_nil_of_le (by rw [HN'.out]; omega))
          obtain ⟨zq, hzq⟩ : ∃ z, z = insAll (flat2 b) zp := ⟨_, rfl⟩
          have HIq : Hid (Is wr u7 zq) := Lib.hid (by rw [hzq, ← hrel.out.2.2.1, HDn.out]; exact hrel.out.1)
          have HBq := Lib.hid hrel.out.2.1
          have HZq := Lib.hid hzq
          have hzlq : zq.length ≤ n1 + n2 := by
            have e : zq = zs := by rw [hzq, ← hrel.out.2.2.1, HDn.out]; rfl
            rw [e]; have := hrel.out.2.2.2; omega
          clear hzq hrel HDn
          have HIw := HIq
          obtain ⟨Ax, cx, rfl, hcx, hmx, hcellx⟩ := HIq.out
          simp only [maxLen] at hmx
          have HCX := Lib.hid hcellx
          obtain ⟨n3, h3⟩ : ∃ n, zq.length = n := ⟨_, rfl⟩
          have HN3 := Lib.hid h3
          rw [h3] at hcx hzlq ⊢
          have HMG : Hid (mergeGo op a b (zq.drop 0) [] = mergedP op a b) := Lib.hid (by rw [List.drop_zero, HZq.out, HZp.out]; rfl)
          clear hcellx h3 HIq
          go_wp2_with fail
          obtain ⟨w3, rfl⟩ : ∃ w3, w3 = wr := ⟨_, rfl⟩
          have hl3 : n3 ≤ 300000 := by omega
          have HAw := Lib.hid (HA.out)
          clear hzlq hzlp
          go_loopw [8, 11] (fun t k wq => ∃ (j : Nat) (acc : Runs), k = .int .i64 (j : Int) ∧ j ≤ n3 ∧ Hid (OwnI wq w.heap.size t (flat2 acc) ∧ Below w3.heap.size w3 wq ∧ mergeGo op a b (zq.drop j) acc = mergedP op a b ∧ acc.length ≤ j)) (fun _ k _ => n3 - (intOf k).toNat)
          case atStart => exact ⟨0, [], rfl, by omega, ownI_nil _ _, Below.refl _ _, HMG.out, by simp⟩
          case round =>
            obtain ⟨j, acc, rfl, hj, hrel⟩ := hrel
            have HB3 := Lib.hid hrel.out.2.1
            have HBw : Hid (Below w.heap.size w wr) := Lib.hid (HBq.out.trans (HB3.out.mono HBq.out.size))
            have hla := hrel.out.2.2.2
            by_cases hlt : j + 1 < n3
            · obtain ⟨x, hx⟩ : ∃ x, zq[j]? = some x := ⟨_, List.getElem?_eq_getElem (by rw [HN3.out]; omega)⟩
              obtain ⟨x', hx'⟩ : ∃ x', zq[j + 1]? = some x' := ⟨_, List.getElem?_eq_getElem (by rw [HN3.out]; omega)⟩
              obtain ⟨bb, off, rfl, hbb, hcs⟩ := HCX.out (by rw [HN3.out]; omega)
              have T0 := Lib.hid (hcs j x hx)
              have T1 := Lib.hid (hcs (j + 1) x' hx')
              have t0 := (HB3.out.cell (p := ⟨bb, off + j, none⟩) hbb).trans T0.out
              have t1 := (HB3.out.cell (p := ⟨bb, off + (j + 1), none⟩) hbb).trans T1.out
              have HD := Lib.hid (show zq.drop j = x :: x' :: zq.drop (j + 1 + 1) by rw [drop_at hx, drop_at hx'])
              have HD' := Lib.hid (drop_at hx')
              have q0 : (j : Int) + 1 < n3 := by omega
              have q1 : (0 : Int) ≤ j := by omega
              have q2 : (j : Int) < n3 := by omega
              have hbr : bb < wr.heap.size := Nat.lt_of_lt_of_le hbb HB3.out.size
              obtain ⟨ra, hra⟩ : ∃ ra, inR a x = ra := ⟨_, rfl⟩
              obtain ⟨rb, hrb⟩ : ∃ rb, inR b x = rb := ⟨_, rfl⟩
              have HR := Lib.hid (show mergeGo op a b (x' :: zq.drop (j + 1 + 1)) (if op ra rb then addP acc x x' else acc) = mergedP op a b by rw [← hrel.out.2.2.1, HD.out, mergeGo, hra, hrb])
              have CA : Hid (∀ W, Is W (.slice A n1 c) (flat2 a) → Calls Try.prog 69 #[.slice A n1 c, .int .i64 x] W fun e w' => e = .returned (.bool ra) ∧ Below W.heap.size W w') := Lib.hid (fun W hW => hra ▸ in_any hW x (by have := HLL.out; omega))
              have CB : Hid (∀ W, Is W (.slice A' n2 c') (flat2 b) → Calls Try.prog 69 #[.slice A' n2 c', .int .i64 x] W fun e w' => e = .returned (.bool rb) ∧ Below W.heap.size W w') := Lib.hid (fun W hW => hrb ▸ in_any hW x (by have := HLL.out; omega))
              have HIo := Lib.hid (show OwnI wr.drew w.heap.size u8 (flat2 acc) from World.ownsRow.drew hrel.out.1)
              have HIa := Lib.hid (show Is wr.drew (.slice A n1 c) (flat2 a) from (HA.out.below HBw.out.drew))
              have HIb := Lib.hid (show Is wr.drew (.slice A' n2 c') (flat2 b) from (HB0.out.below HBw.out.drew))
              have HBB := Lib.hid HB3.out.drew
              clear hx hx' hcs hra hrb hrel
              go_wp2_with fail
              have tokA : True := trivial
              have tokB : True := trivial
              have sk := t0
              have sk1 := t1
              go_region_held3 (fun W => W.cell? ⟨bb, off + j, none⟩ = some (.int .i64 x))
                (first
                  | go_keep
                  | exact sk)
                (first
                  | (go_at_call 69; have _t := tokA; (with_reducible refine (CA.out _ HIa.out).mono ?_); rintro e w4 ⟨rfl, hb4⟩; replace HIb := Lib.hid (HIb.out.below hb4); replace HIo := Lib.hid (HIo.out.below hb4); have sk' := (HBB.out.trans (hb4.mono HBB.out.size)).cell (p := ⟨bb, off + j, none⟩) hbb; replace HBB := Lib.hid (HBB.out.trans (hb4.mono HBB.out.size)); clear sk; have sk := sk'.trans T0.out; clear sk' tokA HIa hb4)
                  | (go_at_call 69; have _t := tokB; (with_reducible refine (CB.out _ HIb.out).mono ?_); rintro e w5 ⟨rfl, hb5⟩; (try replace HIa := Lib.hid (HIa.out.below hb5)); replace HIo := Lib.hid (HIo.out.below hb5); have sk' := (HBB.out.trans (hb5.mono HBB.out.size)).cell (p := ⟨bb, off + j, none⟩) hbb; replace HBB := Lib.hid (HBB.out.trans (hb5.mono HBB.out.size)); clear sk; have sk := sk'.trans T0.out; clear sk' tokB HIb hb5)
                  | fail)
              all_goals
                clear t1 sk1
                have t0 := sk
                have t1 := (HBB.out.cell (p := ⟨bb, off + (j + 1), none⟩) hbb).trans T1.out
                have hbq := Nat.lt_of_lt_of_le hbb HBB.out.size
                clear sk CA CB
                have HEND : Hid (∀ acc', acc'.length ≤ acc.length + 1 → (if op ra rb then addP acc x x' else acc) = acc' → mergeGo op a b (zq.drop (j + 1)) acc' = mergedP op a b) := Lib.hid (fun acc' _ e => by rw [HD'.out, ← e]; exact HR.out)
                clear HR HD HD'
                rcases HMO.out with ⟨rfl, rfl⟩ | ⟨rfl, rfl⟩ | ⟨rfl, rfl⟩ <;> cases ra <;> cases rb <;> (clear HMO; go_wp2_with fail)
              all_goals first
                | (replace HIo := Lib.hid (show OwnI _ _ _ _ from World.ownsRow.drew HIo.out)
                   replace HBB := Lib.hid HBB.out.drew
                   have f1 : IntKind.i64.wrap ((j : Int) + 1) = (j : Int) + 1 := IntWalk.i64_in _ (by omega)
                   have f2 : (0 : Int) ≤ (j : Int) + 1 := by omega
                   have f3 : ((j : Int) + 1).toNat = j + 1 := by omega
                   have hla2 : acc.length ≤ 400000 := by omega
                   go_region_held3 (fun W => W.cell? ⟨bb, off + j, none⟩ = some (.int .i64 x) ∧ W.cell? ⟨bb, off + (j + 1), none⟩ = some (.int .i64 x'))
                     (first
                       | go_keep
                       | exact sk)
                     (first
                       | (go_at_call 70; (with_reducible refine (add_any HIo.out.is x x' hla2).mono ?_); rintro e w6 ⟨u6, rfl, ho6, hb6⟩; have sk := And.intro ((hb6.cell (p := ⟨bb, off + j, none⟩) hbq).trans t0) ((hb6.cell (p := ⟨bb, off + (j + 1), none⟩) hbq).trans t1); have HI6 := Lib.hid (show OwnI _ w.heap.size _ _ from own_weaken ho6 (by have := HBB.out.size; have := HBq.out.size; omega)); have HB6 := Lib.hid (HBB.out.trans (hb6.mono HBB.out.size)); clear ho6 hb6)
                       | fail)
                   clear f1 f2 f3 sk t0 t1
                   have hal : (addP acc x x').length ≤ acc.length + 1 := by have := addGo_len acc [] x x' []; simpa [addP] using this
                   have HAL := Lib.hid hal
                   clear hal
                   go_wp2_with fail
                   go_roundw
                   case rel => exact ⟨j + 1, addP acc x x', by go_num, by omega, HI6.out, HB6.out, HEND.out _ HAL.out rfl, by have := HAL.out; omega⟩
                   case measure => simp [intOf]; omega)
                | (go_roundw
                   case rel => exact ⟨j + 1, acc, by go_num, by omega, HIo.out, HBB.out, HEND.out _ (by omega) rfl, by omega⟩
                   case measure => simp [intOf]; omega)
            · have q0 : (n3 : Int) ≤ (j : Int) + 1 := by omega
              have q1 : (0 : Int) ≤ j := by omega
              have e : mergedP op a b = acc := by
                rw [← hrel.out.2.2.1]
                by_cases e : j < n3
                · obtain ⟨x, hx⟩ : ∃ x, zq[j]? = some x := ⟨_, List.getElem?_eq_getElem (by rw [HN3.out]; exact e)⟩
                  rw [drop_at hx, List.drop_eq_nil_of_le (by rw [HN3.out]; omega)]
                  simp [mergeGo]
                · rw [List.drop_eq_nil_of_le (by rw [HN3.out]; omega)]
                  simp [mergeGo]
              have HIo : Hid (OwnI wr w.heap.size u8 (flat2 (mergedP op a b))) := Lib.hid (by rw [e]; exact hrel.out.1)
              clear e hrel
              go_wp2_with fail
              go_ret
              exact ⟨_, rfl, HIo.out, HBw.out⟩

end Go.Proofs.Ytclnepijbnhdfaa
