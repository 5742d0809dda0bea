/-
  combined of the reference: the canonical region of two lists, of any size.
-/
import Derived.Test.YtclnepijbnhdfaaRmrg
import Derived.Test.YtclnepijbnhdfaaComb
import Derived.Test.YtclnepijbnhdfaaRow
namespace Go.Proofs.Ytclnepijbnhdfaa
open Go.RowKit

theorem flat2_inj : ∀ {a b : Runs}, flat2 a = flat2 b → a = b
  | [], [], _ => rfl
  | [], _ :: _, h => by simp [flat2] at h
  | _ :: _, [], h => by simp [flat2] at h
  | (p, q) :: a, (r, s) :: b, h => by
    have e : ∀ (p : Int × Int) (l : Runs), flat2 (p :: l) = p.1 :: p.2 :: flat2 l := fun _ _ => rfl
    rw [e, e] at h
    simp only [List.cons.injEq] at h
    rw [h.1, h.2.1, flat2_inj h.2.2]

theorem Rs.drew {w : World} {v : Value} {l : List R} (h : Rs w v l) : Rs w.drew v l := h

/-- the strips behind the row j of a list of rows -/
def stripsAt (rr : Int → Runs) (zs : List Int) (j : Nat) : List Band :=
  match zs.drop j with
  | [] => []
  | y :: ys => stripsY rr y ys

theorem stripsAt_next {rr : Int → Runs} {zs : List Int} {j : Nat} {y y' : Int} (h : zs[j]? = some y) (h' : zs[j + 1]? = some y') : stripsAt rr zs j = if rr y = [] then stripsAt rr zs (j + 1) else (y, y', rr y) :: stripsAt rr zs (j + 1) := by
  unfold stripsAt
  rw [drop_at h, drop_at h']
  rfl

theorem stripsAt_last {rr : Int → Runs} {zs : List Int} {j : Nat} (h : zs.length ≤ j + 1) : stripsAt rr zs j = [] := by
  unfold stripsAt
  by_cases e : j < zs.length
  · obtain ⟨y, hy⟩ : ∃ y, zs[j]? = some y := ⟨_, List.getElem?_eq_getElem e⟩
    rw [drop_at hy, List.drop_eq_nil_of_le h]
    rfl
  · rw [List.drop_eq_nil_of_le (by omega)]

theorem stripsAt_head {rr : Int → Runs} {zs : List Int} {j : Nat} {y : Int} (hp : zs.Pairwise (· < ·)) (h : zs[j]? = some y) : ∀ p ∈ (stripsAt rr zs j).head?, y ≤ p.1 := by
  have hs : (zs.drop j).Pairwise (· < ·) := hp.sublist (List.drop_sublist _ _)
  unfold stripsAt
  rw [drop_at h] at hs ⊢
  exact stripsY_head hs

/-- what the rounds of combined keep -/
def CombRel (op : Op2) (a b : List R) (zs : List Int) (w1 wr : World) (uo ul : Value) (j : Nat) (D : List R) (cur : Band) : Prop :=
  OwnR wr w1.heap.size uo (D ++ bandR cur) ∧ OwnI wr w1.heap.size ul (flat2 cur.2.2) ∧ Below w1.heap.size w1 wr ∧ (cur.2.2 ≠ [] → zs[j]? = some cur.2.1) ∧ D ++ flatB (tailC cur (stripsAt (rrP op a b) zs j)) = combP op a b ∧ (D ++ bandR cur).length ≤ j * 1000

theorem ysP_lt {zs : List Int} {j : Nat} {x x' : Int} (hp : zs.Pairwise (· < ·)) (h : zs[j]? = some x) (h' : zs[j + 1]? = some x') : x < x' := by
  have hs : (zs.drop j).Pairwise (· < ·) := hp.sublist (List.drop_sublist _ _)
  rw [drop_at h, drop_at h'] at hs
  exact (List.pairwise_cons.1 hs).1 x' List.mem_cons_self

theorem comb_start (op : Op2) (a b : List R) : flatB (tailC (0, 0, []) (stripsAt (rrP op a b) (ysP a b) 0)) = combP op a b := by
  rw [tailC_start]
  unfold combP stripsAt regionP
  rw [List.drop_zero]
  cases ysP a b <;> rfl

set_option maxRecDepth 100000 in
set_option maxHeartbeats 8000000 in
theorem combined_any {w : World} {va vb : Value} {a b : List R} (h : Rs w va a) (hu : Rs w vb b) {mode : Int} {op : Op2} (hmo : Mode mode op) (hl : a.length + b.length ≤ 500) :
    Calls Try.prog 36 #[va, vb, .int .i64 mode] w fun e w' => ∃ t, e = .returned t ∧ OwnR w' w.heap.size t (combP op a b) ∧ Below w.heap.size w w' := by
  have HA := Lib.hid h
  have HB := Lib.hid hu
  have HL := Lib.hid hl
  obtain ⟨A, c, rfl, hc, hm, _⟩ := h
  obtain ⟨A', c', rfl, hc', hm', _⟩ := hu
  simp only [maxLen] at hm hm'
  obtain ⟨i0, hi, hz0, hz1, hz2⟩ := info_parts rect_info
  go_enter Try.func36, Try.ntmps36
  go_wp2_with fail
  refine (rows_any HA.out (is_nil w) (by simp; omega)).mono ?_
  rintro e w0 ⟨uy, rfl, hy, hb0⟩
  go_wp2_with fail
  refine (rows_any (HB.out.below hb0) hy (by have := rowsP_len a []; simp at this; omega)).mono ?_
  rintro e w1 ⟨uz, rfl, hz, hb1⟩
  have HBw := Lib.hid (hb0.trans (hb1.mono hb0.size))
  replace HA := Lib.hid ((HA.out.below hb0).below hb1)
  replace HB := Lib.hid ((HB.out.below hb0).below hb1)
  have hyl : (ysP a b).length ≤ 1000 := by have h1 := rowsP_len a []; have h2 := rowsP_len b (rowsP a []); simp at h1; unfold ysP; omega
  have HP := Lib.hid (ysP_inc a b)
  have HS := Lib.hid (comb_start op a b)
  clear hb0 hb1 hy
  change Is w1 uz (ysP a b) at hz
  generalize ysP a b = zs at *
  obtain ⟨Ay, cy, rfl, hcy, hmy, hcell⟩ := hz
  simp only [maxLen] at hmy
  have HC := Lib.hid hcell
  obtain ⟨n, hn⟩ : ∃ n, zs.length = n := ⟨_, rfl⟩
  have HN := Lib.hid hn
  rw [hn] at hcy hyl ⊢
  clear hcell hn
  go_wp2_with fail
  go_loopw [8, 9, 10, 11] (fun uo ul fr k wq => ∃ (j : Nat) (D : List R) (cur : Band), k = .int .i64 (j : Int) ∧ fr = .int .i64 (D.length : Int) ∧ j ≤ n ∧ Hid (CombRel op a b zs w1 wq uo ul j D cur)) (fun _ _ _ k _ => n - (intOf k).toNat)
  case atStart => exact ⟨0, [], (0, 0, []), rfl, rfl, by omega, ownR_nil _ _, ownI_nil _ _, Below.refl _ _, fun e => absurd rfl e, HS.out, by simp [bandR]⟩
  case round =>
    obtain ⟨j, D, cur, rfl, rfl, hj, hrel⟩ := hrel
    have HB3 := Lib.hid hrel.out.2.2.1
    by_cases hlt : j + 1 < n
    · obtain ⟨x, hx⟩ : ∃ x, zs[j]? = some x := ⟨_, List.getElem?_eq_getElem (by rw [HN.out]; omega)⟩
      obtain ⟨x', hx'⟩ : ∃ x', zs[j + 1]? = some x' := ⟨_, List.getElem?_eq_getElem (by rw [HN.out]; omega)⟩
      obtain ⟨bb, off, rfl, hbb, hcs⟩ := HC.out (by rw [HN.out]; omega)
      have T0 := Lib.hid (hcs j x hx)
      have T1 := Lib.hid (hcs (j + 1) x' hx')
      have t0 := (HB3.out.cell (p := ⟨bb, off + j, none⟩) hbb).trans T0.out
      have q0 : (j : Int) + 1 < n := by omega
      have q1 : (0 : Int) ≤ j := by omega
      have q2 : (j : Int) < n := by omega
      have HX := Lib.hid hx
      have HX' := Lib.hid hx'
      have HAd := Lib.hid (show Rs wr.drew (.slice A a.length c) a from HA.out.below HB3.out.drew)
      have HBd := Lib.hid (show Rs wr.drew (.slice A' b.length c') b from HB.out.below HB3.out.drew)
      have HBB := Lib.hid HB3.out.drew
      have HO := Lib.hid (show OwnR wr.drew w1.heap.size u8 (D ++ bandR cur) from World.ownsRow.drew hrel.out.1)
      have HI := Lib.hid (show OwnI wr.drew w1.heap.size u9 (flat2 cur.2.2) from World.ownsRow.drew hrel.out.2.1)
      have CA : Hid (∀ W, Rs W (.slice A a.length c) a → Calls Try.prog 53 #[.slice A a.length c, .int .i64 x] W fun e w' => ∃ t, e = .returned t ∧ Is w' t (flat2 (rowP a x [])) ∧ Below W.heap.size W w') := Lib.hid (fun W hW => row_any hW x (by have := HL.out; omega))
      have CB : Hid (∀ W, Rs W (.slice A' b.length c') b → Calls Try.prog 53 #[.slice A' b.length c', .int .i64 x] W fun e w' => ∃ t, e = .returned t ∧ Is w' t (flat2 (rowP b x [])) ∧ Below W.heap.size W w') := Lib.hid (fun W hW => row_any hW x (by have := HL.out; omega))
      have HRL : Hid ((rowP a x []).length + (rowP b x []).length ≤ 150000) := Lib.hid (by have h1 := rowP_len a x []; have h2 := rowP_len b x []; simp at h1 h2; have := HL.out; omega)
      clear hx hx' hcs
      go_wp2_with fail
      have tokA : True := trivial
      have tokB : True := trivial
      have sk := t0
      go_region_held3 (fun W => W.cell? ⟨bb, off + j, none⟩ = some (.int .i64 x))
        (first
          | go_keep
          | exact sk)
        (first
          | (go_at_call 53; have _t := tokA; (with_reducible refine (CA.out _ HAd.out).mono ?_); rintro e w4 ⟨ta, rfl, hia, hb4⟩; have HIA := Lib.hid hia; (try replace HIB := Lib.hid (Is.below HIB.out hb4)); (try replace HBd := Lib.hid (HBd.out.below hb4)); replace HO := Lib.hid (show OwnR _ _ _ _ from own_below HO.out hb4); replace HI := Lib.hid (HI.out.below hb4); have sk' := (HBB.out.trans (hb4.mono HBB.out.size)).cell (p := ⟨bb, off + j, none⟩) hbb; replace HBB := Lib.hid (HBB.out.trans (hb4.mono HBB.out.size)); clear sk; have sk := sk'.trans T0.out; clear sk' tokA HAd hia hb4)
          | (go_at_call 53; have _t := tokB; (with_reducible refine (CB.out _ HBd.out).mono ?_); rintro e w5 ⟨tb, rfl, hib, hb5⟩; have HIB := Lib.hid hib; (try replace HIA := Lib.hid (Is.below HIA.out hb5)); (try replace HAd := Lib.hid (HAd.out.below hb5)); replace HO := Lib.hid (show OwnR _ _ _ _ from own_below HO.out hb5); replace HI := Lib.hid (HI.out.below hb5); have sk' := (HBB.out.trans (hb5.mono HBB.out.size)).cell (p := ⟨bb, off + j, none⟩) hbb; replace HBB := Lib.hid (HBB.out.trans (hb5.mono HBB.out.size)); clear sk; have sk := sk'.trans T0.out; clear sk' tokB HBd hib hb5)
          | (go_at_call 52; (with_reducible refine (merged_any HIA.out HIB.out hmo HRL.out).mono ?_); rintro e w6 ⟨tm, rfl, him, hb6⟩; have HIM := Lib.hid (show OwnI w6 w1.heap.size tm (flat2 (rrP op a b x)) from own_weaken him HBB.out.size); replace HO := Lib.hid (show OwnR _ _ _ _ from own_below HO.out hb6); replace HI := Lib.hid (HI.out.below hb6); have sk' := (HBB.out.trans (hb6.mono HBB.out.size)).cell (p := ⟨bb, off + j, none⟩) hbb; replace HBB := Lib.hid (HBB.out.trans (hb6.mono HBB.out.size)); clear sk; have sk := sk'.trans T0.out; clear sk' HIA HIB him hb6)
          | fail)
      all_goals
        have HREL := Lib.hid hrel.out
        clear hrel sk CA CB HRL
        obtain ⟨v, hv⟩ : ∃ v, rrP op a b x = v := ⟨_, rfl⟩
        rw [hv] at HIM
        have HNX := Lib.hid (show stripsAt (rrP op a b) zs j = if v = [] then stripsAt (rrP op a b) zs (j + 1) else (x, x', v) :: stripsAt (rrP op a b) zs (j + 1) from hv ▸ stripsAt_next HX.out HX'.out)
        have HVL : Hid (v.length ≤ 1000) := Lib.hid (by have := rrP_len op a b x; rw [hv] at this; have := HL.out; omega)
        have HF := Lib.hid (flat2_len v)
        have HXX : Hid (x < x') := Lib.hid (by have h1 := (ysP_lt HP.out HX.out HX'.out); exact h1)
        clear hv
        by_cases hw : v ≠ [] ∧ v = cur.2.2
        · obtain ⟨hv0, hvc⟩ := hw
          obtain ⟨lo, hi', vc⟩ := cur
          simp only at hvc
          subst hvc
          have hhi : hi' = x := by
            have h1 := HREL.out.2.2.2.1 hv0
            rw [HX.out] at h1
            exact (Option.some.inj h1).symm
          subst hhi
          have hvl : 0 < v.length := by cases v with
            | nil => exact absurd rfl hv0
            | cons p l => simp
          have HV0 := Lib.hid hv0
          have C5 : Hid (Calls Try.prog 54 #[tm, u9] w6 fun e w' => e = .returned (.bool true) ∧ Below w6.heap.size w6 w') := Lib.hid (by
            have h1 := sameRuns_any (HIM.out.is) (show OwnI w6 w1.heap.size u9 (flat2 v) from HI.out).is (by have := HVL.out; have := HF.out; omega)
            rwa [decide_eq_true (rfl : flat2 v = flat2 v)] at h1)
          obtain ⟨N, hN⟩ : ∃ N, (D ++ bandR (lo, hi', v)).length = N := ⟨_, rfl⟩
          have HNN := Lib.hid (show N = D.length + v.length by rw [← hN, List.length_append, bandR_len])
          have HO1 : Hid (w6.ownsRow w1.heap.size 32 4 u8 N (flat (D ++ bandR (lo, hi', v)))) := Lib.hid (by have h1 := HO.out; unfold OwnR at h1; rw [hN] at h1; exact h1)
          obtain ⟨g, cap, rfl, hg1, hg2, hg3, hg4⟩ := owns_shape HO1.out (by have := HNN.out; omega)
          obtain ⟨Am, cm, rfl, hcm1, hcm2, _⟩ := id HIM.out.is
          simp only [maxLen] at hg4 hcm2
          obtain ⟨fl, hfl⟩ : ∃ fl, (flat2 v).length = fl := ⟨_, rfl⟩
          have hflp : (0 : Int) < fl := by have := HF.out; omega
          rw [hfl] at hcm1 C5 ⊢
          have HM0 := Lib.hid (show (w6.ownsRow w1.heap.size 32 4 (.slice (some ⟨g, 0, none⟩) N cap) N (flat (mixB D lo hi' x' v 0))) by rw [mixB_start]; exact HO1.out)
          have HDL : Hid (D.length ≤ N) := Lib.hid (by have := HNN.out; omega)
          have HNB : Hid (N ≤ 1000000) := Lib.hid (by have h3 : (D ++ bandR (lo, hi', v)).length ≤ j * 1000 := HREL.out.2.2.2.2.2; rw [hN] at h3; omega)
          have hDN : D.length ≤ N := HDL.out
          have hNb := HNB.out
          clear hN hv0 hvl HO1 HO hfl
          go_wp2_with fail
          refine C5.out.mono ?_
          rintro e w7 ⟨rfl, hb7⟩
          replace HM0 := Lib.hid (own_below HM0.out hb7)
          replace HI := Lib.hid (HI.out.below hb7)
          replace HBB := Lib.hid (HBB.out.trans (hb7.mono HBB.out.size))
          have hg7 : g < w7.heap.size := Nat.lt_of_lt_of_le hg2 hb7.size
          clear hb7 C5 HIM
          go_wp2_with fail
          have hDi : (0 : Int) ≤ D.length := by omega
          go_loopw [13] (fun k wq => ∃ i K : Nat, k = .int .i64 (K : Int) ∧ K ≤ N ∧ Hid (K = D.length + i ∧ wq.ownsRow w1.heap.size 32 4 (.slice (some ⟨g, 0, none⟩) N cap) N (flat (mixB D lo hi' x' v i)) ∧ OwnI wq w1.heap.size u9 (flat2 v) ∧ Below w1.heap.size w1 wq)) (fun k _ => N - (intOf k).toNat)
          case atStart => exact ⟨0, D.length, rfl, hDN, rfl, HM0.out, HI.out, HBB.out⟩
          case round =>
            obtain ⟨i, K, rfl, hK, hin⟩ := hrel
            by_cases hlt2 : K < N
            · obtain ⟨p, hp⟩ : ∃ p, v[i]? = some p := ⟨_, List.getElem?_eq_getElem (by have := hin.out.1; have := HNN.out; omega)⟩
              obtain ⟨m1, m2⟩ := mixB_at (D := D) (lo := lo) (y := hi') (y' := x') hp
              rw [← hin.out.1] at m1 m2
              obtain ⟨⟨c0, c1, c2, c3⟩, cf⟩ := OwnR.cells hin.out.2.1 m1
              have HS1 := Lib.hid (OwnR.set_y1 hin.out.2.1 m1 x')
              have HB4 := Lib.hid hin.out.2.2.2
              have t1 := (HB4.out.cell (p := ⟨bb, off + (j + 1), none⟩) hbb).trans T1.out
              have cfk := cf (K * 4 + 3)
              have q3 : (K : Int) < N := by omega
              have q4 : (0 : Int) ≤ K := by omega
              have HK := Lib.hid hin.out.1
              have HM2 := Lib.hid m2
              have HI4 := Lib.hid (owns_far hin.out.2.2.1 (by
                have h1 := owns_types hin.out.2.2.1 hin.out.2.1 (by decide)
                rcases h1 with h1 | h1
                · rw [h1]; simp
                · exact h1) (K * 4 + 3) (.int .i64 x'))
              clear hp m1 m2 cf hin c0 c1 c2
              go_wp2_with fail
              go_roundw
              case rel => exact ⟨i + 1, K + 1, by go_num, by omega, Lib.hid ⟨by have := HK.out; omega, by rw [← HM2.out]; exact HS1.out, HI4.out, HB4.out.setCell (p := ⟨g, K * 4 + 3, none⟩) hg1 _⟩⟩
              case measure => simp [intOf]; omega
            · have q3 : (N : Int) ≤ K := by omega
              have HE : Hid (CombRel op a b zs w1 wr (.slice (some ⟨g, 0, none⟩) N cap) u9 (j + 1) D (lo, x', v)) := Lib.hid (by
                have h1 := hin.out.2.1
                rw [mixB_end D lo hi' x' v (by have := hin.out.1; have := HNN.out; omega)] at h1
                have hl : (D ++ bandR (lo, x', v)).length = N := by rw [List.length_append, bandR_len]; exact HNN.out.symm
                refine ⟨by unfold OwnR; rw [hl]; exact h1, hin.out.2.2.1, hin.out.2.2.2, fun _ => HX'.out, ?_, ?_⟩
                · have h2 := HREL.out.2.2.2.2.1
                  rw [HNX.out, if_neg HV0.out, tailC_merge HV0.out] at h2
                  exact h2
                · have h3 := HREL.out.2.2.2.2.2
                  rw [List.length_append, bandR_len] at h3
                  simp only at h3
                  have := HNN.out
                  omega)
              clear hin
              go_wp2_with fail
              go_roundw
              case rel => exact ⟨j + 1, D, (lo, x', v), by go_num, rfl, by omega, HE.out⟩
              case measure => simp [intOf]; omega
        · have HW := Lib.hid hw
          obtain ⟨D', hD'⟩ : ∃ D', D ++ bandR cur = D' := ⟨_, rfl⟩
          have HD' := Lib.hid hD'
          have HO1 := HO
          rw [hD'] at HO1
          have HREL2 : Hid (D'.length ≤ j * 1000) := Lib.hid (by have h3 : (D ++ bandR cur).length ≤ j * 1000 := HREL.out.2.2.2.2.2; rw [hD'] at h3; exact h3)
          have hDb : D'.length ≤ 1000000 := by have := HREL2.out; omega
          obtain ⟨Ao, co, rfl, hco1, hco2, _⟩ := id (OwnR.rs HO1.out)
          obtain ⟨Am, cm, rfl, hcm1, hcm2, _⟩ := id HIM.out.is
          obtain ⟨Al, cl, rfl, hcl1, hcl2, _⟩ := id HI.out.is
          simp only [maxLen] at hco2 hcm2 hcl2
          obtain ⟨fl, hfl⟩ : ∃ fl, (flat2 v).length = fl := ⟨_, rfl⟩
          obtain ⟨gl, hgl⟩ : ∃ gl, (flat2 cur.2.2).length = gl := ⟨_, rfl⟩
          have HFL := Lib.hid hfl
          have HFV : Hid (fl = 2 * v.length) := Lib.hid (by rw [← hfl]; exact HF.out)
          have hflb : fl ≤ 2000 := by have := HFV.out; have := HVL.out; omega
          have C5 : Hid (v ≠ [] → Calls Try.prog 54 #[.slice Am fl cm, .slice Al gl cl] w6 fun e w' => e = .returned (.bool false) ∧ Below w6.heap.size w6 w') := Lib.hid (fun hv0 => by
            have h1 := sameRuns_any (HIM.out.is) (HI.out.is) ⟨by rw [hfl]; omega, by
              have h2 : (D ++ bandR cur).length ≤ j * 1000 := HREL.out.2.2.2.2.2
              rw [List.length_append, bandR_len] at h2
              have h3 := flat2_len cur.2.2
              have := HN.out
              omega⟩
            rw [hfl, hgl] at h1
            have h4 : decide (flat2 v = flat2 cur.2.2) = false := decide_eq_false (fun e => HW.out ⟨hv0, flat2_inj e⟩)
            rw [h4] at h1
            exact h1)
          have HIM2 : Hid (w6.ownsRow w1.heap.size 3 1 (.slice Am fl cm) fl (ints (flat2 v))) := Lib.hid (by have h1 := HIM.out; unfold OwnI at h1; rw [hfl] at h1; exact h1)
          rw [hfl, hgl]
          rw [hfl] at hcm1
          rw [hgl] at hcl1
          clear hfl hgl hw hD' HO
          have key : Hid (∀ w7, Below w6.heap.size w6 w7 → w7.ownsRow w1.heap.size 32 4 (.slice Ao D'.length co) D'.length (flat D') ∧ w7.ownsRow w1.heap.size 3 1 (.slice Am fl cm) fl (ints (flat2 v)) ∧ Below w1.heap.size w1 w7) := Lib.hid (fun w7 hb7 => ⟨own_below HO1.out hb7, own_below HIM2.out hb7, HBB.out.trans (hb7.mono HBB.out.size)⟩)
          clear HO1 HIM2 HIM HI HBB
          have fin : Hid (∀ (wq : World) (uo : Value), OwnR wq w1.heap.size uo (D' ++ bandR (x, x', v)) → OwnI wq w1.heap.size (.slice Am fl cm) (flat2 v) → Below w1.heap.size w1 wq → CombRel op a b zs w1 wq uo (.slice Am fl cm) (j + 1) D' (x, x', v)) := Lib.hid (fun wq uo h1 h2 h3 => by
            refine ⟨h1, h2, h3, fun _ => HX'.out, ?_, ?_⟩
            · rw [← HREL.out.2.2.2.2.1, HNX.out]
              by_cases hv0 : v = []
              · rw [if_pos hv0, ← HD'.out, List.append_assoc, hv0]
                rw [← tailC_gap (cur := cur) x x' (fun hc p hp => by
                  have h4 := HREL.out.2.2.2.1 hc
                  rw [HX.out] at h4
                  have h5 := stripsAt_head HP.out HX'.out p hp
                  have h6 := Option.some.inj h4
                  have := HXX.out
                  omega)]
              · rw [if_neg hv0, tailC_new hv0 (fun e => HW.out ⟨hv0, e.2.symm⟩), ← HD'.out, List.append_assoc]
            · rw [List.length_append, bandR_len]
              have := HREL2.out
              have := HVL.out
              simp only
              omega)
          by_cases hv0 : v = []
          · have e0 : fl = 0 := by rw [HFV.out, hv0]; rfl
            have q9 : ¬ (0 : Int) < fl := by omega
            clear C5 hv0 e0
            have HST := Lib.hid (key.out w6 (Below.refl _ _))
            clear key
            go_wp2_with fail
            go_loopw [8, 14] (fun uo k wq => ∃ i K : Nat, k = .int .i64 (K : Int) ∧ K ≤ fl ∧ Hid (K = 2 * i ∧ OwnR wq w1.heap.size uo (D' ++ (bandR (x, x', v)).take i) ∧ wq.ownsRow w1.heap.size 3 1 (.slice Am fl cm) fl (ints (flat2 v)) ∧ Below w1.heap.size w1 wq)) (fun _ k _ => fl - (intOf k).toNat)
            case atStart => exact ⟨0, 0, rfl, by omega, rfl, by rw [List.take_zero, List.append_nil]; exact HST.out.1, HST.out.2.1, HST.out.2.2⟩
            case round =>
              obtain ⟨i, K, rfl, hK, hin⟩ := hrel
              by_cases hlt2 : K < fl
              · have hi2 : i < v.length := by have := hin.out.1; have := HFV.out; omega
                have hK1 : K + 1 < fl := by have := hin.out.1; have := HFV.out; omega
                obtain ⟨p, hp⟩ : ∃ p, v[i]? = some p := ⟨_, List.getElem?_eq_getElem hi2⟩
                have hf := flat2_at hp
                rw [← hin.out.1] at hf
                obtain ⟨gm, capm, em, hgm1, hgm2, _, _⟩ := owns_shape hin.out.2.2.1 (by omega)
                injection em with em1 em2 em3
                subst em1 em3
                obtain ⟨oc, _⟩ := owns_cells hin.out.2.2.1
                have HB4 := Lib.hid hin.out.2.2.2
                have t0 := (HB4.out.cell (p := ⟨bb, off + j, none⟩) hbb).trans T0.out
                have t1 := (HB4.out.cell (p := ⟨bb, off + (j + 1), none⟩) hbb).trans T1.out
                have HF2 := Lib.hid (show (ints (flat2 v))[K]? = some (.int .i64 p.1) by rw [List.getElem?_map, hf.1]; rfl)
                have HF3 := Lib.hid (show (ints (flat2 v))[K + 1]? = some (.int .i64 p.2) by rw [List.getElem?_map, hf.2]; rfl)
                have t2 := oc K _ HF2.out
                have t3 := oc (K + 1) _ HF3.out
                have HBT := Lib.hid (show (bandR (x, x', v)).take (i + 1) = (bandR (x, x', v)).take i ++ [⟨p.1, x, p.2, x'⟩] by rw [List.take_add_one, bandR_at hp]; rfl)
                have HK := Lib.hid hin.out.1
                have HOr := hin.out.2.1
                have HMr := hin.out.2.2.1
                have HAP := Lib.hid (owns_types HMr HOr (by decide))
                have hln : (D' ++ (bandR (x, x', v)).take i).length ≤ 1100000 := by
                  rw [List.length_append, List.length_take, bandR_len]
                  have := HVL.out
                  simp only
                  omega
                have q3 : (K : Int) + 1 < fl := by omega
                have q4 : (0 : Int) ≤ K := by omega
                have q5 : (K : Int) < fl := by omega
                have hszw := HB4.out.size
                clear hp hf hin oc
                obtain ⟨pa, pb⟩ := p
                simp only at t2 t3 HBT HF2 HF3
                go_wp2_with fail
                have f1 : IntKind.i64.wrap ((j : Int) + 1) = (j : Int) + 1 := IntWalk.i64_in _ (by omega)
                have f2 : (0 : Int) ≤ (j : Int) + 1 := by omega
                have f3 : ((j : Int) + 1).toNat = j + 1 := by omega
                have f4 : IntKind.i64.wrap ((K : Int) + 1) = (K : Int) + 1 := IntWalk.i64_in _ (by omega)
                have f5 : (0 : Int) ≤ (K : Int) + 1 := by omega
                have f6 : ((K : Int) + 1).toNat = K + 1 := by omega
                go_region_held3 (fun W => W.cell? ⟨bb, off + j, none⟩ = some (.int .i64 x) ∧ W.cell? ⟨bb, off + (j + 1), none⟩ = some (.int .i64 x') ∧ W.cell? ⟨gm, K, none⟩ = some (.int .i64 pa) ∧ W.cell? ⟨gm, K + 1, none⟩ = some (.int .i64 pb))
                  (first
                    | go_keep
                    | exact s1)
                  (first
                    | (refine step_appR (by rfl) _ _ (by rfl) (base := w1.heap.size) (l := D' ++ (bandR (x, x', v)).take i) (m := [⟨pa, x, pb, x'⟩]) (by rfl) (World.ownsRow.drew (World.ownsRow.alloc HOr _)) (by rfl) (rs_one wr ⟨pa, x, pb, x'⟩).drew (by simp only [List.length_singleton]; omega) (by simp; omega) ?_; intro v8 w8 ho8 hg8 hl8 _; have hbb8 := below_grown0 (HB4.out.alloc hszw _).drew (by simp; omega) (Nat.le_refl _) ((World.ownsRow.alloc HOr _).drew) hg8; have hm8 := (own_else0 ((World.ownsRow.alloc HMr _).drew) hg8 HAP.out hl8).1; have oc8 := (owns_cells hm8).1; have s1 := And.intro ((hbb8.cell (p := ⟨bb, off + j, none⟩) hbb).trans T0.out) (And.intro ((hbb8.cell (p := ⟨bb, off + (j + 1), none⟩) hbb).trans T1.out) (And.intro (oc8 K _ HF2.out) (oc8 (K + 1) _ HF3.out)))))
                clear f1 f2 f3 f4 f5 f6
                have HO8 := Lib.hid ho8
                have HM8 := Lib.hid hm8
                have HB8 := Lib.hid hbb8
                clear ho8 hm8 hbb8 hg8 hl8 s1 oc8 t0 t1 t2 t3 HOr HMr hln
                go_wp2_with fail
                go_roundw
                case rel => exact ⟨i + 1, K + 2, by go_num, by omega, Lib.hid ⟨by have := HK.out; omega, by rw [HBT.out, ← List.append_assoc]; exact HO8.out, HM8.out, HB8.out⟩⟩
                case measure => simp [intOf]; omega
              · have q3 : (fl : Int) ≤ K := by omega
                have HE : Hid (CombRel op a b zs w1 wr u8 (.slice Am fl cm) (j + 1) D' (x, x', v)) := Lib.hid (fin.out wr u8 (by
                  have h1 := hin.out.2.1
                  rw [List.take_of_length_le (by rw [bandR_len]; have := hin.out.1; have := HFV.out; simp only; omega)] at h1
                  exact h1) (by
                  have h1 := hin.out.2.2.1
                  unfold OwnI
                  rw [HFL.out]
                  exact h1) hin.out.2.2.2)
                clear hin
                go_wp2_with fail
                go_roundw
                case rel => exact ⟨j + 1, D', (x, x', v), by go_num, rfl, by omega, HE.out⟩
                case measure => simp [intOf]; omega
          · have q9 : (0 : Int) < fl := by
              have := HFV.out
              cases v with
              | nil => exact absurd rfl hv0
              | cons p l => simp at this; omega
            have C6 := Lib.hid (C5.out hv0)
            clear C5 hv0
            go_wp2_with fail
            refine C6.out.mono ?_
            rintro e w7 ⟨rfl, hb7⟩
            clear C6
            have HST := Lib.hid (key.out w7 hb7)
            clear key
            go_wp2_with fail
            go_loopw [8, 14] (fun uo k wq => ∃ i K : Nat, k = .int .i64 (K : Int) ∧ K ≤ fl ∧ Hid (K = 2 * i ∧ OwnR wq w1.heap.size uo (D' ++ (bandR (x, x', v)).take i) ∧ wq.ownsRow w1.heap.size 3 1 (.slice Am fl cm) fl (ints (flat2 v)) ∧ Below w1.heap.size w1 wq)) (fun _ k _ => fl - (intOf k).toNat)
            case atStart => exact ⟨0, 0, rfl, by omega, rfl, by rw [List.take_zero, List.append_nil]; exact HST.out.1, HST.out.2.1, HST.out.2.2⟩
            case round =>
              obtain ⟨i, K, rfl, hK, hin⟩ := hrel
              by_cases hlt2 : K < fl
              · have hi2 : i < v.length := by have := hin.out.1; have := HFV.out; omega
                have hK1 : K + 1 < fl := by have := hin.out.1; have := HFV.out; omega
                obtain ⟨p, hp⟩ : ∃ p, v[i]? = some p := ⟨_, List.getElem?_eq_getElem hi2⟩
                have hf := flat2_at hp
                rw [← hin.out.1] at hf
                obtain ⟨gm, capm, em, hgm1, hgm2, _, _⟩ := owns_shape hin.out.2.2.1 (by omega)
                injection em with em1 em2 em3
                subst em1 em3
                obtain ⟨oc, _⟩ := owns_cells hin.out.2.2.1
                have HB4 := Lib.hid hin.out.2.2.2
                have t0 := (HB4.out.cell (p := ⟨bb, off + j, none⟩) hbb).trans T0.out
                have t1 := (HB4.out.cell (p := ⟨bb, off + (j + 1), none⟩) hbb).trans T1.out
                have HF2 := Lib.hid (show (ints (flat2 v))[K]? = some (.int .i64 p.1) by rw [List.getElem?_map, hf.1]; rfl)
                have HF3 := Lib.hid (show (ints (flat2 v))[K + 1]? = some (.int .i64 p.2) by rw [List.getElem?_map, hf.2]; rfl)
                have t2 := oc K _ HF2.out
                have t3 := oc (K + 1) _ HF3.out
                have HBT := Lib.hid (show (bandR (x, x', v)).take (i + 1) = (bandR (x, x', v)).take i ++ [⟨p.1, x, p.2, x'⟩] by rw [List.take_add_one, bandR_at hp]; rfl)
                have HK := Lib.hid hin.out.1
                have HOr := hin.out.2.1
                have HMr := hin.out.2.2.1
                have HAP := Lib.hid (owns_types HMr HOr (by decide))
                have hln : (D' ++ (bandR (x, x', v)).take i).length ≤ 1100000 := by
                  rw [List.length_append, List.length_take, bandR_len]
                  have := HVL.out
                  simp only
                  omega
                have q3 : (K : Int) + 1 < fl := by omega
                have q4 : (0 : Int) ≤ K := by omega
                have q5 : (K : Int) < fl := by omega
                have hszw := HB4.out.size
                clear hp hf hin oc
                obtain ⟨pa, pb⟩ := p
                simp only at t2 t3 HBT HF2 HF3
                go_wp2_with fail
                have f1 : IntKind.i64.wrap ((j : Int) + 1) = (j : Int) + 1 := IntWalk.i64_in _ (by omega)
                have f2 : (0 : Int) ≤ (j : Int) + 1 := by omega
                have f3 : ((j : Int) + 1).toNat = j + 1 := by omega
                have f4 : IntKind.i64.wrap ((K : Int) + 1) = (K : Int) + 1 := IntWalk.i64_in _ (by omega)
                have f5 : (0 : Int) ≤ (K : Int) + 1 := by omega
                have f6 : ((K : Int) + 1).toNat = K + 1 := by omega
                go_region_held3 (fun W => W.cell? ⟨bb, off + j, none⟩ = some (.int .i64 x) ∧ W.cell? ⟨bb, off + (j + 1), none⟩ = some (.int .i64 x') ∧ W.cell? ⟨gm, K, none⟩ = some (.int .i64 pa) ∧ W.cell? ⟨gm, K + 1, none⟩ = some (.int .i64 pb))
                  (first
                    | go_keep
                    | exact s1)
                  (first
                    | (refine step_appR (by rfl) _ _ (by rfl) (base := w1.heap.size) (l := D' ++ (bandR (x, x', v)).take i) (m := [⟨pa, x, pb, x'⟩]) (by rfl) (World.ownsRow.drew (World.ownsRow.alloc HOr _)) (by rfl) (rs_one wr ⟨pa, x, pb, x'⟩).drew (by simp only [List.length_singleton]; omega) (by simp; omega) ?_; intro v8 w8 ho8 hg8 hl8 _; have hbb8 := below_grown0 (HB4.out.alloc hszw _).drew (by simp; omega) (Nat.le_refl _) ((World.ownsRow.alloc HOr _).drew) hg8; have hm8 := (own_else0 ((World.ownsRow.alloc HMr _).drew) hg8 HAP.out hl8).1; have oc8 := (owns_cells hm8).1; have s1 := And.intro ((hbb8.cell (p := ⟨bb, off + j, none⟩) hbb).trans T0.out) (And.intro ((hbb8.cell (p := ⟨bb, off + (j + 1), none⟩) hbb).trans T1.out) (And.intro (oc8 K _ HF2.out) (oc8 (K + 1) _ HF3.out)))))
                clear f1 f2 f3 f4 f5 f6
                have HO8 := Lib.hid ho8
                have HM8 := Lib.hid hm8
                have HB8 := Lib.hid hbb8
                clear ho8 hm8 hbb8 hg8 hl8 s1 oc8 t0 t1 t2 t3 HOr HMr hln
                go_wp2_with fail
                go_roundw
                case rel => exact ⟨i + 1, K + 2, by go_num, by omega, Lib.hid ⟨by have := HK.out; omega, by rw [HBT.out, ← List.append_assoc]; exact HO8.out, HM8.out, HB8.out⟩⟩
                case measure => simp [intOf]; omega
              · have q3 : (fl : Int) ≤ K := by omega
                have HE : Hid (CombRel op a b zs w1 wr u8 (.slice Am fl cm) (j + 1) D' (x, x', v)) := Lib.hid (fin.out wr u8 (by
                  have h1 := hin.out.2.1
                  rw [List.take_of_length_le (by rw [bandR_len]; have := hin.out.1; have := HFV.out; simp only; omega)] at h1
                  exact h1) (by
                  have h1 := hin.out.2.2.1
                  unfold OwnI
                  rw [HFL.out]
                  exact h1) hin.out.2.2.2)
                clear hin
                go_wp2_with fail
                go_roundw
                case rel => exact ⟨j + 1, D', (x, x', v), by go_num, rfl, by omega, HE.out⟩
                case measure => simp [intOf]; omega
    · have q0 : (n : Int) ≤ (j : Int) + 1 := by omega
      have q1 : (0 : Int) ≤ j := by omega
      have HO : Hid (OwnR wr w1.heap.size u8 (combP op a b)) := Lib.hid (by
        rw [← hrel.out.2.2.2.2.1, stripsAt_last (by rw [HN.out]; omega), tailC_end]
        exact hrel.out.1)
      clear hrel
      go_wp2_with fail
      go_ret
      exact ⟨_, rfl, own_weaken HO.out HBw.out.size, HBw.out.trans (HB3.out.mono HBw.out.size)⟩

end Go.Proofs.Ytclnepijbnhdfaa
