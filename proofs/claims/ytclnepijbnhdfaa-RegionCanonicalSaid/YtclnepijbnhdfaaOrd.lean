/-
  The law's 'ordered': true of every canonical list.
-/
import Derived.Test.YtclnepijbnhdfaaPos
import Derived.Test.YtclnepijbnhdfaaSame
import Derived.BigQuiet
import Derived.Deep.QuietTactic
import Derived.Deep.CutBlock
import Derived.Deep.DeepCutAuto
namespace Go.Proofs.Ytclnepijbnhdfaa
open Go.RowKit

set_option maxRecDepth 100000 in
set_option maxHeartbeats 8000000 in
theorem ordered_any {w : World} {v : Value} {bs : List Band} (h : Rs w v (flatB bs)) (ho : OrdF bs) (hl : (flatB bs).length ≤ 1000) : Calls Try.prog 32 #[v] w fun e w' => e = .returned (.bool true) ∧ Below w.heap.size w w' := by
  obtain ⟨A, c, rfl, hc, hm, hcell⟩ := h
  simp only [maxLen] at hm
  have HC := Lib.hid hcell
  have HO := Lib.hid ho
  obtain ⟨n, hn⟩ : ∃ n, (flatB bs).length = n := ⟨_, rfl⟩
  rw [hn] at hc hl ⊢
  have HN := Lib.hid hn
  clear hcell hn ho
  go_enter Try.func32, Try.ntmps32
  go_wp2_with fail
  go_loopw [3, 4] (fun s3 s4 wr => ∃ k : Nat, k ≤ bs.length ∧ s3 = .int .i64 ((pos bs (k - 1) : Nat) : Int) ∧ s4 = .int .i64 ((pos bs k : Nat) : Int) ∧ Hid (Below w.heap.size w wr)) (fun _ s4 _ => n - (intOf s4).toNat)
  case atStart => exact ⟨0, by omega, rfl, rfl, Lib.hid (Below.refl _ _)⟩
  case round =>
    obtain ⟨k, hk, rfl, rfl, HB⟩ := hrel
    by_cases hlt : k < bs.length
    · obtain ⟨⟨lo, hi, rs⟩, hb⟩ : ∃ b, bs[k]? = some b := ⟨_, List.getElem?_eq_getElem hlt⟩
      obtain ⟨g1, g2, g3, g4⟩ := HO.out.run k _ hb
      simp only at g1 g2 g3 g4
      obtain ⟨P, hP⟩ : ∃ P, pos bs k = P := ⟨_, rfl⟩
      obtain ⟨Q, hQ⟩ : ∃ P, pos bs (k - 1) = P := ⟨_, rfl⟩
      obtain ⟨m, hmr⟩ : ∃ m, rs.length = m := ⟨_, rfl⟩
      have HS : Hid (pos bs (k + 1) = P + m) := Lib.hid (by rw [pos_succ hb, hP, hmr])
      have HF : Hid (∀ (i : Nat) p, rs[i]? = some p → (flatB bs)[P + i]? = some ⟨p.1, lo, p.2, hi⟩) := Lib.hid fun i p hp => by
        have := flat_pos hb hp
        rw [hP] at this
        exact this
      have hPm : P + m ≤ n := by
        obtain ⟨p, hp⟩ : ∃ p, rs[m - 1]? = some p := ⟨_, List.getElem?_eq_getElem (by omega)⟩
        have := (List.getElem?_eq_some_iff.1 (HF.out _ _ hp)).1
        rw [HN.out] at this
        omega
      have HPk := Lib.hid hP
      have HQ := Lib.hid hQ
      have HM := Lib.hid hmr
      have Hb := Lib.hid hb
      have G3 := Lib.hid g3
      have G4 := Lib.hid g4
      rw [hmr] at g1
      rw [hP, hQ]
      obtain ⟨blk, off, rfl, hblk, hcs⟩ := HC.out (by rw [HN.out]; omega)
      obtain ⟨⟨fa, fb⟩, hf⟩ : ∃ p, rs[0]? = some p := ⟨_, List.getElem?_eq_getElem (by omega)⟩
      have FF := Lib.hid (hcs P _ (HF.out 0 _ hf))
      have HCS := Lib.hid hcs
      have Hf := Lib.hid hf
      have q0 : (P : Int) < n := by omega
      clear hb g3 g4 hP hQ hmr hcs hf
      go_upto_block 2 with (fail)
      go_cut [5] (fun s5 wx => s5 = .int .i64 ((P + m : Nat) : Int) ∧ Hid (Below w.heap.size w wx))
      case first =>
        go_wp2_with fail
        go_loopw [5] (fun s5 wr => ∃ i : Nat, i ≤ m ∧ s5 = .int .i64 ((P + i : Nat) : Int) ∧ Hid (Below w.heap.size w wr)) (fun s5 _ => (P + m) - (intOf s5).toNat)
        case atStart => exact ⟨0, by omega, rfl, HB⟩
        case round =>
          clear HB
          obtain ⟨i, hi', rfl, HB⟩ := hrel
          obtain ⟨t, ht⟩ : ∃ t, P + i = t := ⟨_, rfl⟩
          rw [ht]
          have f1 := (HB.out.cell (p := ⟨blk, off + P * 4 + 1, none⟩) hblk).trans FF.out.2.1
          have f3 := (HB.out.cell (p := ⟨blk, off + P * 4 + 3, none⟩) hblk).trans FF.out.2.2.2
          by_cases hlt2 : i < m
          · obtain ⟨⟨pa, pb⟩, hp⟩ : ∃ p, rs[i]? = some p := ⟨_, List.getElem?_eq_getElem (by rw [HM.out]; exact hlt2)⟩
            have hpp : pa < pb := G3.out _ _ hp
            have T := HCS.out t _ (by rw [← ht]; exact HF.out i _ hp)
            have t0 := (HB.out.cell (p := ⟨blk, off + t * 4, none⟩) hblk).trans T.1
            have t1 := (HB.out.cell (p := ⟨blk, off + t * 4 + 1, none⟩) hblk).trans T.2.1
            have t2 := (HB.out.cell (p := ⟨blk, off + t * 4 + 2, none⟩) hblk).trans T.2.2.1
            have t3 := (HB.out.cell (p := ⟨blk, off + t * 4 + 3, none⟩) hblk).trans T.2.2.2
            have q1 : (t : Int) < n := by omega
            clear T
            cases i with
            | zero =>
              have e : t = P := by omega
              subst e
              have d1 : decide (pb ≤ pa) = false := decide_eq_false (by omega)
              have d2 : decide (hi ≤ lo) = false := decide_eq_false (by omega)
              have d3 : decide ((t : Int) < t) = false := decide_eq_false (by omega)
              have d4 : decide ((t : Int) < n) = true := decide_eq_true (by omega)
              clear hp ht
              go_wp2_with fail
              go_quiet (fail)
              go_wp2_with fail
              go_quiet (fail)
              clear f1 f3 t0 t1 t2 t3
              go_wp2_with fail
              go_roundw
              case rel => exact ⟨0 + 1, by omega, by go_num, Lib.hid (below_draws HB.out _)⟩
              case measure => simp [intOf]; omega
            | succ i =>
              obtain ⟨⟨la, lb⟩, hl0⟩ : ∃ p, rs[i]? = some p := ⟨_, List.getElem?_eq_getElem (by rw [HM.out]; omega)⟩
              have hlp : lb < pa := G4.out _ _ _ hl0 hp
              obtain ⟨t', ht'⟩ : ∃ t', P + i = t' := ⟨_, rfl⟩
              have S := HCS.out t' _ (by rw [← ht']; exact HF.out i _ hl0)
              have s2 := (HB.out.cell (p := ⟨blk, off + t' * 4 + 2, none⟩) hblk).trans S.2.2.1
              have q2 : (t' : Int) < n := by omega
              have q3 : (P : Int) < t := by omega
              have ft : IntKind.i64.wrap ((t : Int) - 1) = t' := by rw [IntWalk.i64_in _ (by omega)]; omega
              have HTT := Lib.hid ht
              have d1 : decide (pb ≤ pa) = false := decide_eq_false (by omega)
              have d2 : decide (hi ≤ lo) = false := decide_eq_false (by omega)
              have d3 : decide ((P : Int) < t) = true := decide_eq_true (by omega)
              have d4 : decide ((t : Int) < n) = true := decide_eq_true (by omega)
              have d5 : decide (pa ≤ lb) = false := decide_eq_false (by omega)
              clear hp hl0 S ht ht'
              go_wp2_with fail
              go_quiet (fail)
              go_wp2_with fail
              go_quiet (fail)
              clear f1 f3 t0 t1 t2 t3 s2 ft
              go_wp2_with fail
              go_roundw
              case rel => exact ⟨i + 1 + 1, by omega, by have := HTT.out; go_num, Lib.hid (below_draws HB.out _)⟩
              case measure => have := HTT.out; simp [intOf]; omega
          · have HT : Hid (t = P + m) := Lib.hid (by omega)
            clear hlt2 hi'
            by_cases hk1 : k + 1 < bs.length
            · obtain ⟨⟨lo', hi', rs'⟩, hc'⟩ : ∃ b, bs[k + 1]? = some b := ⟨_, List.getElem?_eq_getElem hk1⟩
              have r1 := (HO.out.run _ _ hc').1
              have r2 := (HO.out.next _ _ _ Hb.out hc').1
              simp only at r1 r2
              obtain ⟨⟨na, nb⟩, hn0⟩ : ∃ p, rs'[0]? = some p := ⟨_, List.getElem?_eq_getElem r1⟩
              have hft := flat_pos hc' hn0
              rw [HS.out, Nat.add_zero, ← HT.out] at hft
              have htn : t < n := by
                have := (List.getElem?_eq_some_iff.1 hft).1
                rw [HN.out] at this
                exact this
              have t1 := (HB.out.cell (p := ⟨blk, off + t * 4 + 1, none⟩) hblk).trans (HCS.out t _ hft).2.1
              have q1 : (t : Int) < n := by omega
              have e1 : decide ((t : Int) < n) = true := decide_eq_true q1
              have e2 : (lo' == lo) = false := beq_eq_false_iff_ne.2 (by omega)
              clear hc' r1 r2 hn0 hft ht
              go_wp2_with fail
              go_quiet (fail)
              go_wp2_with fail
              go_meet
              exact ⟨by rw [← HT.out], Lib.hid (below_draws HB.out nq)⟩
            · have e1 : decide (t < n) = false := decide_eq_false (by
                have := pos_end (bs := bs) (k := k + 1) (by omega)
                rw [HS.out, HN.out] at this
                have := HT.out
                omega)
              clear ht
              go_wp2_with fail
              go_quiet (fail)
              go_wp2_with fail
              go_meet
              exact ⟨by rw [← HT.out], Lib.hid (below_draws HB.out nq)⟩
      case rest =>
        clear HB
        obtain ⟨rfl, HB⟩ := hcut
        obtain ⟨t, ht⟩ : ∃ t, P + m = t := ⟨_, rfl⟩
        rw [ht]
        have HT : Hid (t = P + m) := Lib.hid ht.symm
        clear ht
        by_cases hk0 : k = 0
        · subst hk0
          have hP0 : P = 0 := HPk.out.symm
          subst hP0
          clear HF
          go_wp2_with fail
          go_roundw
          case rel => exact ⟨0 + 1, by omega, by rw [Nat.add_sub_cancel, HPk.out], by rw [HS.out, ← HT.out], HB⟩
          case measure => have := HT.out; simp [intOf]; omega
        · obtain ⟨k', rfl⟩ : ∃ k', k = k' + 1 := ⟨k - 1, by omega⟩
          clear hk0
          obtain ⟨⟨lo0, hi0, rs0⟩, hb0⟩ : ∃ b, bs[k']? = some b := ⟨_, List.getElem?_eq_getElem (by omega)⟩
          have g10 := (HO.out.run k' _ hb0).1
          have HNX := Lib.hid (HO.out.next k' _ _ hb0 Hb.out)
          simp only at g10 HNX
          have hQ : pos bs k' = Q := by rw [← HQ.out, Nat.add_sub_cancel]
          obtain ⟨m0, hm0⟩ : ∃ m, rs0.length = m := ⟨_, rfl⟩
          have HPQ : Hid (P = Q + m0) := Lib.hid (by rw [← HPk.out, pos_succ hb0, hQ, hm0])
          have HF0 : Hid (∀ (i : Nat) p, rs0[i]? = some p → (flatB bs)[Q + i]? = some ⟨p.1, lo0, p.2, hi0⟩) := Lib.hid fun i p hp => by
            have := flat_pos hb0 hp
            rw [hQ] at this
            exact this
          have HM0 := Lib.hid hm0
          rw [hm0] at g10
          have hPQ := HPQ.out
          obtain ⟨P', hP'⟩ : ∃ P', P = P' + 1 := ⟨P - 1, by omega⟩
          obtain ⟨⟨la, lb⟩, hl0⟩ : ∃ p, rs0[m0 - 1]? = some p := ⟨_, List.getElem?_eq_getElem (by omega)⟩
          have L0 := HCS.out P' _ (by rw [show P' = Q + (m0 - 1) by omega]; exact HF0.out _ _ hl0)
          have l3 := (HB.out.cell (p := ⟨blk, off + P' * 4 + 3, none⟩) hblk).trans L0.2.2.2
          have l1 := (HB.out.cell (p := ⟨blk, off + P * 4 + 1, none⟩) hblk).trans FF.out.2.1
          have HL3 := Lib.hid L0.2.2.2
          have fp : IntKind.i64.wrap ((P : Int) - 1) = P' := by rw [IntWalk.i64_in _ (by omega)]; omega
          have p1 : (0 : Int) < P := by omega
          have p3 : (P' : Int) < n := by omega
          have d4 : decide (lo < hi0) = false := decide_eq_false (by have := HNX.out.1; omega)
          have ft : IntKind.i64.wrap ((t : Int) - P) = m := by rw [IntWalk.i64_in _ (by have := HT.out; omega)]; have := HT.out; omega
          have fq : IntKind.i64.wrap ((P : Int) - Q) = m0 := by rw [IntWalk.i64_in _ (by omega)]; omega
          clear hb0 hQ hm0 hl0 L0 hP' hPQ
          go_wp2_with fail
          go_quiet (fail)
          replace HB := Lib.hid (below_draws HB.out nq)
          clear l1 l3
          generalize World.drewN _ nq = wy at *
          go_wp2_with fail
          clear d4
          have l3 := (HB.out.cell (p := ⟨blk, off + P' * 4 + 3, none⟩) hblk).trans HL3.out
          have l1 := (HB.out.cell (p := ⟨blk, off + P * 4 + 1, none⟩) hblk).trans FF.out.2.1
          go_upto_region 11 with (fail)
          go_cut [6] (fun s6 wx => ∃ e0 : Bool, s6 = .bool e0 ∧ Hid (Below w.heap.size w wx ∧ (e0 = true → m0 = m ∧ lo = hi0)))
          case first =>
            by_cases h5 : lo = hi0
            · by_cases h6 : m = m0
              · have d5 : (lo == hi0) = true := beq_iff_eq.2 h5
                have d6 : ((m : Int) == m0) = true := beq_iff_eq.2 (by omega)
                have H56 := Lib.hid (And.intro h5 h6)
                clear h5 h6
                go_wp2_with fail
                go_quiet (fail)
                go_wp2_with fail
                go_meet
                exact ⟨true, rfl, Lib.hid ⟨below_draws HB.out nq, fun _ => ⟨H56.out.2.symm, H56.out.1⟩⟩⟩
              · have d5 : (lo == hi0) = true := beq_iff_eq.2 h5
                have d6 : ((m : Int) == m0) = false := beq_eq_false_iff_ne.2 (by omega)
                clear h5 h6
                go_wp2_with fail
                go_quiet (fail)
                go_wp2_with fail
                go_meet
                exact ⟨false, rfl, Lib.hid ⟨below_draws HB.out nq, fun h => by cases h⟩⟩
            · have d5 : (lo == hi0) = false := beq_eq_false_iff_ne.2 h5
              clear h5
              go_wp2_with fail
              go_quiet (fail)
              go_wp2_with fail
              go_meet
              exact ⟨false, rfl, Lib.hid ⟨below_draws HB.out nq, fun h => by cases h⟩⟩
          case rest =>
            clear HB l1 l3 fp
            obtain ⟨e0, rfl, hc0⟩ := hcut
            have HE0 := Lib.hid hc0.out.2
            have HB := Lib.hid hc0.out.1
            clear hc0
            go_wp2_with fail
            go_loopw [6, 7] (fun s6 s7 wr => ∃ (j : Nat) (e : Bool), j ≤ m ∧ s6 = .bool e ∧ s7 = .int .i64 (j : Int) ∧ Hid (Below w.heap.size w wr ∧ (e = true → m0 = m ∧ lo = hi0 ∧ rs.take j = rs0.take j))) (fun s6 s7 _ => (match s6 with | .bool true => 1 | _ => 0) + (m - (intOf s7).toNat))
            case atStart => exact ⟨0, e0, by omega, rfl, rfl, Lib.hid ⟨HB.out, fun h => ⟨(HE0.out h).1, (HE0.out h).2, by simp⟩⟩⟩
            case round =>
              clear HB
              obtain ⟨j, e, hj, rfl, rfl, hrel⟩ := hrel
              have HB := Lib.hid hrel.out.1
              cases e
              · clear hrel
                go_wp2_with fail
                go_roundw
                case rel => exact ⟨k' + 1 + 1, by omega, by rw [Nat.add_sub_cancel, HPk.out], by rw [HS.out, ← HT.out], HB⟩
                case measure => have := HT.out; simp [intOf]; omega
              · have HE := Lib.hid (hrel.out.2 rfl)
                clear hrel
                by_cases hj2 : j < m
                · obtain ⟨⟨xa, xb⟩, hx⟩ : ∃ p, rs[j]? = some p := ⟨_, List.getElem?_eq_getElem (by rw [HM.out]; exact hj2)⟩
                  obtain ⟨⟨ya, yb⟩, hy⟩ : ∃ p, rs0[j]? = some p := ⟨_, List.getElem?_eq_getElem (by rw [HM0.out, HE.out.1]; exact hj2)⟩
                  obtain ⟨u, hu⟩ : ∃ u, P + j = u := ⟨_, rfl⟩
                  obtain ⟨z, hz⟩ : ∃ z, Q + j = z := ⟨_, rfl⟩
                  have T := HCS.out u _ (by rw [← hu]; exact HF.out j _ hx)
                  have S := HCS.out z _ (by rw [← hz]; exact HF0.out j _ hy)
                  have hm0 := HE.out.1
                  have hPQ := HPQ.out
                  have f0 : IntKind.i64.wrap ((P : Int) + j) = u := by rw [IntWalk.i64_in _ (by omega)]; omega
                  have f1 : IntKind.i64.wrap ((Q : Int) + j) = z := by rw [IntWalk.i64_in _ (by omega)]; omega
                  have hu0 : (u : Int) < n := by omega
                  have hz0 : (z : Int) < n := by omega
                  have hj0 : (j : Int) < m := by omega
                  have HX := Lib.hid (And.intro hx hy)
                  have t0 := (HB.out.cell (p := ⟨blk, off + u * 4, none⟩) hblk).trans T.1
                  have t2 := (HB.out.cell (p := ⟨blk, off + u * 4 + 2, none⟩) hblk).trans T.2.2.1
                  have s0 := (HB.out.cell (p := ⟨blk, off + z * 4, none⟩) hblk).trans S.1
                  have s2 := (HB.out.cell (p := ⟨blk, off + z * 4 + 2, none⟩) hblk).trans S.2.2.1
                  clear hx hy hu hz T S hm0 hPQ
                  by_cases ha : xa = ya
                  · by_cases hb : xb = yb
                    · subst ha hb
                      go_wp2_with fail
                      go_quiet (fail)
                      clear t0 t2 s0 s2 f0 f1
                      go_wp2_with fail
                      go_roundw
                      case rel => exact ⟨j + 1, true, by omega, rfl, by go_num, Lib.hid ⟨below_draws HB.out _, fun _ => ⟨HE.out.1, HE.out.2.1, by rw [List.take_add_one, List.take_add_one, HE.out.2.2, HX.out.1, HX.out.2]⟩⟩⟩
                      case measure => simp [intOf]; omega
                    · subst ha
                      have d9 : (xb == yb) = false := beq_eq_false_iff_ne.2 hb
                      go_wp2_with fail
                      go_quiet (fail)
                      clear t0 t2 s0 s2 f0 f1
                      go_wp2_with fail
                      go_roundw
                      case rel => exact ⟨j + 1, false, by omega, rfl, by go_num, Lib.hid ⟨below_draws HB.out _, fun h => by cases h⟩⟩
                      case measure => simp [intOf]; omega
                  · have d8 : (xa == ya) = false := beq_eq_false_iff_ne.2 ha
                    go_wp2_with fail
                    go_quiet (fail)
                    clear t0 t2 s0 s2 f0 f1
                    go_wp2_with fail
                    go_roundw
                    case rel => exact ⟨j + 1, false, by omega, rfl, by go_num, Lib.hid ⟨below_draws HB.out _, fun h => by cases h⟩⟩
                    case measure => simp [intOf]; omega
                · exfalso
                  obtain ⟨e1, e2, e3⟩ := HE.out
                  rw [List.take_of_length_le (by rw [HM.out]; omega), List.take_of_length_le (by rw [HM0.out]; omega)] at e3
                  exact HNX.out.2 e2 e3
    · have e : pos bs k = n := by rw [pos_end (by omega), HN.out]
      rw [e]
      clear e
      go_wp2_with fail
      go_ret
      exact ⟨rfl, HB.out⟩

end Go.Proofs.Ytclnepijbnhdfaa
