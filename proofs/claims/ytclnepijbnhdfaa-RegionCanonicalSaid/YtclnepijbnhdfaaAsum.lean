/-
  appendSum: two rows of edges added.
-/
import Derived.Test.YtclnepijbnhdfaaGro
import Derived.Test.YtclnepijbnhdfaaCmp
namespace Go.Proofs.Ytclnepijbnhdfaa
open Go.RowKit

theorem addAll_take {acc es ch : List E} {e c : E} (h : e.x ≤ c.x) : addAll acc (e :: es) (c :: ch) = addAll (acc ++ [e]) es (c :: ch) := by
  simp only [addAll, takeLe, dropLe]
  rw [List.takeWhile_cons_of_pos (by simpa using h), List.dropWhile_cons_of_pos (by simpa using h)]
  simp

theorem addAll_stop {acc es ch : List E} {c : E} (h : ∀ e, es[0]? = some e → ¬ e.x ≤ c.x) : addAll acc es (c :: ch) = addAll (addLastP acc c) es ch := by
  cases es with
  | nil => simp [addAll, takeLe, dropLe]
  | cons e es =>
    have := h e rfl
    simp only [addAll, takeLe, dropLe]
    rw [List.takeWhile_cons_of_neg (by simpa using this), List.dropWhile_cons_of_neg (by simpa using this)]
    simp

theorem Es.tail {w : World} {b off n c : Nat} {e : E} {l : List E} (h : Es w (.slice (some ⟨b, off, none⟩) n c) (e :: l)) : Es w (.slice (some ⟨b, off + 3, none⟩) (n - 1) (c - 1)) l := by
  obtain ⟨A, cap, hv, h1, h2, h4⟩ := h
  injection hv with e1 e2 e3
  subst e1 e3
  simp only [List.length_cons] at e2 h1 h4
  obtain ⟨b', off', e1, hlt, hc⟩ := h4 (by omega)
  injection e1 with e1
  injection e1 with e1 e1'
  subst e1 e1'
  refine ⟨_, c - 1, by rw [e2]; rfl, by omega, by omega, fun hn => ⟨b, off + 3, rfl, hlt, fun j r hj => ?_⟩⟩
  have := hc (j + 1) r (by simpa using hj)
  rw [show off + (j + 1) * 3 = off + 3 + j * 3 by omega] at this
  exact this

theorem Es.tail_if {w : World} {b off n c : Nat} {e : E} {l : List E} (h : Es w (.slice (some ⟨b, off, none⟩) n c) (e :: l)) :
    Es w (.slice (if c = 1 then some ⟨b, off, none⟩ else some ⟨b, off + 3, none⟩) (n - 1) (c - 1)) l ∧ ∀ k, blk (.slice (if c = 1 then some ⟨b, off, none⟩ else some ⟨b, off + 3, none⟩) (n - 1) (c - 1)) k → k = b := by
  have ht := h.tail
  by_cases h1 : c = 1
  · rw [if_pos h1]
    obtain ⟨A, cap, hv, k1, k2, k4⟩ := h
    injection hv with e1 e2 e3
    subst e3
    simp only [List.length_cons] at k1 e2
    have hl : l = [] := List.eq_nil_of_length_eq_zero (by omega)
    subst hl
    exact ⟨⟨_, c - 1, by rw [e2]; rfl, by simp, by omega, fun hn => by simp at hn⟩, fun k hk => by simpa [blk, Value.ownBlock, eq_comm] using hk⟩
  · rw [if_neg h1]
    exact ⟨ht, fun k hk => by simpa [blk, Value.ownBlock, eq_comm] using hk⟩

/-- how many elements a slice has -/
def lenV : Value → Nat
  | .slice _ n _ => n
  | _ => 0

/-- what appendSum leaves -/
def Summed (w : World) (base : Nat) (vs vc : Value) (es ch : List E) (e : Ending) (w' : World) : Prop :=
  ∃ v' ch', e = .returned v' ∧ List.Perm ch' ch ∧ ch'.Pairwise (fun p q => p.x ≤ q.x) ∧ OwnE w' base v' (addAll [] es ch') ∧ GrownIn (fun k => blk vs k ∨ blk vc k) w w' ∧ NewOr w vs v'

set_option maxRecDepth 100000 in
set_option maxHeartbeats 4000000 in
theorem appendSum_any {w : World} {base bs bc : Nat} {vs ve vc : Value} {es ch : List E} (hs : OwnE w base vs []) (he : OwnE w bs ve es) (hc : OwnE w bc vc ch)
    (ase : ∀ k, blk ve k → ¬ blk vs k) (asc : ∀ k, blk vc k → ¬ blk vs k) (aec : ∀ k, blk ve k → ¬ blk vc k) (hbase : base ≤ w.heap.size) (hl : wt es + wt ch ≤ 100000 ∧ es.length + ch.length ≤ 100000) :
    Calls Try.prog 62 #[vs, ve, vc] w (Summed w base vs vc es ch) := by
  have C := Lib.hid (sort_any hc (by omega))
  obtain ⟨As, cs, rfl, hcs, hms, _⟩ := id hs.es
  obtain ⟨Ae, ce, rfl, hce, hme, _⟩ := id he.es
  obtain ⟨Ac, cc, rfl, hcc, hmc, _⟩ := id hc.es
  simp only [maxLen, List.length_nil] at hms hme hmc hcs C hs ⊢
  obtain ⟨ne, hne⟩ : ∃ ne, es.length = ne := ⟨_, rfl⟩
  obtain ⟨nc, hnc⟩ : ∃ nc, ch.length = nc := ⟨_, rfl⟩
  have HNE := Lib.hid hne
  have HNC := Lib.hid hnc
  have HL := Lib.hid hl
  rw [hne] at hce he ase aec
  rw [hnc] at hcc C asc aec hc
  rw [hne, hnc]
  have HS := Lib.hid hs
  have HE := Lib.hid he
  have HCB := Lib.hid (own_blk hc)
  have ASE := Lib.hid ase
  have ASC := Lib.hid asc
  have AEC := Lib.hid aec
  clear hne hnc hs he hl ase asc aec hc
  go_enter Try.func62, Try.ntmps62
  go_wp2_with fail
  refine C.out.mono ?_
  rintro e w1 ⟨rfl, ch', hp, hpw, hc1, hg1⟩
  obtain ⟨X, hX⟩ : ∃ X : Nat → Prop, X = fun k => blk (.slice As 0 cs) k ∨ blk (.slice Ac nc cc) k := ⟨_, rfl⟩
  have HX := Lib.hid hX
  have HP := Lib.hid hp
  have HPW := Lib.hid hpw
  have HCL := Lib.hid (show ch'.length = nc by rw [hp.length_eq, HNC.out])
  have HC1 : Hid (w1.ownsRow bc 83 3 (.slice Ac nc cc) nc (flatE ch')) := Lib.hid (by have h := hc1; unfold OwnE at h; rw [HCL.out] at h; exact h)
  have HE1 : Hid (OwnE w1 bs (.slice Ae ne ce) es) := Lib.hid ((GrownIn.of_own hg1).own HE.out AEC.out)
  have HS1 : Hid (OwnE w1 base (.slice As 0 cs) []) := Lib.hid ((GrownIn.of_own hg1).own HS.out (fun k hk hk' => ASC.out k hk' hk))
  have HG1 : Hid (GrownIn X w w1) := Lib.hid ((GrownIn.of_own hg1).mono (fun k _ h => by rw [hX]; exact .inr h))
  obtain ⟨res, hres⟩ : ∃ res, addAll [] es ch' = res := ⟨_, rfl⟩
  have HRES := Lib.hid hres
  have HEB := Lib.hid (own_blk HE.out)
  have HL2 : Hid (wt es + wt ch' ≤ 100000 ∧ ne + nc ≤ 100000) := Lib.hid ⟨by rw [wt_perm hp]; exact HL.out.1, by rw [← HNE.out, ← HNC.out]; exact HL.out.2⟩
  clear hX hp hpw hc1 hg1 hres HE HS C HL HNC
  go_wp2_with fail
  go_loopw [0, 1, 13] (fun sv ev k wr => ∃ (j : Nat) (acc rest : List E), j ≤ nc ∧ k = .int .i64 (j : Int) ∧ Hid (OwnE wr base sv acc ∧ NewOr w (.slice As 0 cs) sv ∧ Es wr ev rest ∧ (∀ k, blk ev k → blk (.slice Ae ne ce) k) ∧ wr.ownsRow bc 83 3 (.slice Ac nc cc) nc (flatE ch') ∧ GrownIn X w wr ∧ addAll acc rest (ch'.drop j) = res ∧ wt acc + wt rest + wt (ch'.drop j) ≤ 100000 ∧ acc.length + rest.length + (nc - j) ≤ 100000)) (fun _ _ k _ => nc - (intOf k).toNat)
  case atStart => exact ⟨0, [], es, by omega, rfl, HS1.out, .inl rfl, HE1.out.es, fun _ h => h, HC1.out, HG1.out, HRES.out, by simp only [wt, List.drop_zero]; have := HL2.out.1; omega, by simp only [List.length_nil]; have := HL2.out.2; have := HNE.out; omega⟩
  case round =>
    obtain ⟨j, acc, rest, hj, rfl, hrel⟩ := hrel
    obtain ⟨w3, rfl⟩ : ∃ w3, w3 = wr := ⟨_, rfl⟩
    by_cases hlt : j < nc
    · obtain ⟨c, hcj⟩ : ∃ c, ch'[j]? = some c := ⟨_, List.getElem?_eq_getElem (by rw [HCL.out]; exact hlt)⟩
      obtain ⟨gc, capc, ec, hgc1, hgc2, _, _⟩ := owns_shape hrel.out.2.2.2.2.1 (by omega)
      injection ec with ec1 ec2 ec3
      subst ec1 ec3
      obtain ⟨⟨c0, c1, c2⟩, _⟩ := OwnE.cells hrel.out.2.2.2.2.1 hcj
      have HD := Lib.hid (drop_at hcj)
      have q0 : (j : Int) < nc := by omega
      have q1 : (0 : Int) ≤ j := by omega
      obtain ⟨A2, c2', rfl, hcs2, hms2, _⟩ := id hrel.out.1.es
      obtain ⟨A3, c3', rfl, hcs3, hms3, _⟩ := id hrel.out.2.2.1
      have HSV := Lib.hid hrel.out.1
      have HNO := Lib.hid hrel.out.2.1
      have HEV := Lib.hid hrel.out.2.2.1
      have HEVB := Lib.hid hrel.out.2.2.2.1
      have HCR := Lib.hid hrel.out.2.2.2.2.1
      have HG := Lib.hid hrel.out.2.2.2.2.2.1
      have HR : Hid (addAll acc rest (c :: ch'.drop (j + 1)) = res) := Lib.hid (by rw [← HD.out]; exact hrel.out.2.2.2.2.2.2.1)
      have HW : Hid (wt acc + wt rest + wt (c :: ch'.drop (j + 1)) ≤ 100000 ∧ acc.length + rest.length + (nc - j) ≤ 100000) := Lib.hid (by rw [← HD.out]; exact hrel.out.2.2.2.2.2.2.2)
      simp only [maxLen] at hms2 hms3
      clear hrel hcj
      go_wp2_with fail
      generalize hWb : w3.alloc (.cells #[.int .i64 c.x, .int .i64 c.a, .int .i64 c.b] 83) = wb at *
      have HBX : Hid (Three wb w3.heap.size c) := Lib.hid (by rw [← hWb]; exact Three.new w3 c 0)
      have HBZ : Hid (w3.heap.size < wb.heap.size) := Lib.hid (by rw [← hWb]; simp)
      have HSVb : Hid (wb.ownsRow base 83 3 (.slice A2 acc.length c2') acc.length (flatE acc)) := Lib.hid (by rw [← hWb]; exact World.ownsRow.alloc HSV.out _)
      have HGb : Hid (GrownIn X w wb) := Lib.hid (by rw [← hWb]; exact HG.out.alloc _)
      have HGr : Hid (GrownIn (fun _ => False) w3 wb) := Lib.hid (by rw [← hWb]; exact (GrownIn.refl _ w3).alloc _)
      have HEVb : Hid (Es wb (.slice A3 rest.length c3') rest) := Lib.hid (HGr.out.es HEV.out (fun _ _ h => h))
      have HSB : Hid (∀ k, blk (.slice A2 acc.length c2') k → base ≤ k ∧ k < w3.heap.size) := Lib.hid (own_blk HSV.out)
      have HVE : Hid (∀ k, blk (.slice Ae ne ce) k → ¬ blk (.slice A2 acc.length c2') k) := Lib.hid (NewOr.apart HNO.out ASE.out (fun k hk => (HEB.out k hk).2))
      obtain ⟨nr, hnr⟩ : ∃ nr, rest.length = nr := ⟨_, rfl⟩
      obtain ⟨na, hna⟩ : ∃ na, acc.length = na := ⟨_, rfl⟩
      rw [hnr] at HEVb hcs3 HEVB
      rw [hna] at HSVb hcs2 HSB HVE HNO
      rw [hnr, hna]
      have HSVc : Hid (OwnE wb base (.slice A2 na c2') acc) := Lib.hid (by unfold OwnE; rw [hna]; exact HSVb.out)
      clear hnr hna hWb c0 c1 c2 HSV HEV HSVb HD
      go_loopw [0, 1] (fun sv ev wq => ∃ acc rest : List E, Hid (OwnE wq base sv acc ∧ NewOr wb (.slice A2 na c2') sv ∧ GrownIn (blk (.slice A2 na c2')) wb wq ∧ Es wb ev rest ∧ (∀ k, blk ev k → blk (.slice Ae ne ce) k) ∧ addAll acc rest (c :: ch'.drop (j + 1)) = res ∧ wt acc + wt rest + wt (c :: ch'.drop (j + 1)) ≤ 100000 ∧ acc.length + rest.length + (nc - j) ≤ 100000)) (fun _ ev _ => lenV ev)
      case atStart => exact ⟨acc, rest, HSVc.out, .inl rfl, GrownIn.refl _ _, HEVb.out, HEVB.out, HR.out, HW.out⟩
      case round =>
        clear HR HW HEVb HEVB HSVc
        obtain ⟨acc, rest, hin⟩ := hrel
        obtain ⟨A4, c4, rfl, hcs4, hms4, _⟩ := id hin.out.1.es
        obtain ⟨A5, c5, rfl, hcs5, hms5, hc5⟩ := id hin.out.2.2.2.1
        simp only [maxLen] at hms4 hms5
        have HI := hin
        have HBN : Hid (¬ blk (.slice A2 na c2') w3.heap.size) := Lib.hid (fun h => by have := (HSB.out _ h).2; omega)
        have x0 := (hin.out.2.2.1.cell (a := ⟨w3.heap.size, 0, none⟩) HBZ.out HBN.out).trans HBX.out.1
        have x1 := (hin.out.2.2.1.cell (a := ⟨w3.heap.size, 1, none⟩) HBZ.out HBN.out).trans HBX.out.2.1
        have x2 := (hin.out.2.2.1.cell (a := ⟨w3.heap.size, 2, none⟩) HBZ.out HBN.out).trans HBX.out.2.2
        cases rest with
        | nil =>
          simp only [List.length_nil] at hcs5 hc5 ⊢
          clear hc5
          go_wp2_with fail
          go_quiet (fail)
          have HGq := Lib.hid (HI.out.2.2.1.draws nq)
          have HOq : Hid (OwnE (wr.drewN nq) base (.slice A4 acc.length c4) acc) := Lib.hid ((GrownIn.refl (fun _ => False) wr).draws nq |>.own HI.out.1 (fun _ _ h => h))
          have x0' : World.cell? (wr.drewN nq) ⟨w3.heap.size, 0, none⟩ = some (.int .i64 c.x) := x0
          have x1' : World.cell? (wr.drewN nq) ⟨w3.heap.size, 1, none⟩ = some (.int .i64 c.a) := x1
          have x2' : World.cell? (wr.drewN nq) ⟨w3.heap.size, 2, none⟩ = some (.int .i64 c.b) := x2
          have HAL := Lib.hid (addLast_any HOq.out (by have := HGq.out.size; have := HBZ.out; have := HGb.out.size; omega) (by have := HI.out.2.2.2.2.2.2.2; omega) c (by have := HI.out.2.2.2.2.2.2.1; simp only [wt] at this ⊢; omega))
          have HWQ := Lib.hid (show World.heap wr = World.heap (wr.drewN nq) from rfl)
          generalize wr.drewN nq = wd at *
          go_wp2_with fail
          refine HAL.out.mono ?_
          rintro e5 w5 ⟨v5, rfl, ho5, hg5, hn5⟩
          have HGG : Hid (GrownIn (blk (.slice A2 na c2')) wb w5) := Lib.hid (NewOr.grown HGq.out (fun _ _ h => h) HI.out.2.1 hg5)
          have HN5 : Hid (NewOr w (.slice As 0 cs) v5) := Lib.hid (NewOr.trans HNO.out (NewOr.trans (NewOr.mono HI.out.2.1 HGb.out.size) (NewOr.mono hn5 (Nat.le_trans HGb.out.size HGq.out.size))))
          have HG5 : Hid (GrownIn X w w5) := Lib.hid (HGb.out.step HGG.out (fun b hb h => by have h1 := NewOr.sub HNO.out b hb h; have h2 := HX.out; rw [h2]; exact .inl h1))
          have HC5 : Hid (w5.ownsRow bc 83 3 (.slice (some ⟨gc, 0, none⟩) nc cc) nc (flatE ch')) := Lib.hid (HGG.out.own (HGr.out.own HCR.out (fun _ _ h => h)) (fun k hk hk' => NewOr.apart HNO.out ASC.out (fun k hk => (HCB.out k hk).2) k hk hk'))
          have HEV5 : Hid (Es w5 (.slice A5 0 c5) ([] : List E)) := Lib.hid (HGG.out.es HI.out.2.2.2.1 (fun k hk => HVE.out k (HI.out.2.2.2.2.1 k hk)))
          have HO5 := Lib.hid ho5
          have HST : Hid (addAll (addLastP acc c) ([] : List E) (ch'.drop (j + 1)) = res) := Lib.hid (by rw [← HI.out.2.2.2.2.2.1, addAll_stop (fun e h => by simp at h)])
          have HW5 : Hid (wt (addLastP acc c) + wt ([] : List E) + wt (ch'.drop (j + 1)) ≤ 100000 ∧ (addLastP acc c).length + ([] : List E).length + (nc - (j + 1)) ≤ 100000) := Lib.hid (by have h1 := HI.out.2.2.2.2.2.2; have h2 := addLast_wt acc c; have h3 := addLast_len acc c; simp only [wt] at h1 h2 ⊢; omega)
          have HEB5 := Lib.hid HI.out.2.2.2.2.1
          clear HAL ho5 hg5 hn5 x0 x1 x2 x0' x1' x2' hin HI HWQ HOq HGq HGG
          go_wp2_with fail
          go_roundw
          case rel => exact ⟨j + 1, addLastP acc c, ([] : List E), by omega, by go_num, HO5.out, HN5.out, HEV5.out, HEB5.out, HC5.out, HG5.out, HST.out, HW5.out⟩
          case measure => simp [intOf]; omega
        | cons e rest =>
          obtain ⟨b5, o5, rfl, hb5, hcell5⟩ := hc5 (by simp)
          obtain ⟨y0, y1, y2⟩ := hcell5 0 e rfl
          have hbv : ¬ blk (.slice A2 na c2') b5 := HVE.out b5 (HI.out.2.2.2.2.1 b5 rfl)
          replace y0 := (HI.out.2.2.1.cell (a := ⟨b5, o5 + 0 * 3, none⟩) hb5 hbv).trans y0
          replace y1 := (HI.out.2.2.1.cell (a := ⟨b5, o5 + 0 * 3 + 1, none⟩) hb5 hbv).trans y1
          replace y2 := (HI.out.2.2.1.cell (a := ⟨b5, o5 + 0 * 3 + 2, none⟩) hb5 hbv).trans y2
          simp only [Nat.zero_mul, Nat.add_zero] at y0 y1 y2
          obtain ⟨n5, hn5⟩ : ∃ n5, (e :: rest).length = n5 := ⟨_, rfl⟩
          have HNQ := Lib.hid hn5
          have q5 : (0 : Int) < n5 := by rw [← hn5]; simp only [List.length_cons]; omega
          have q7 : decide (0 < n5) = true := decide_eq_true (by omega)
          have q6 : n5 ≤ 1000000 := by have := HI.out.2.2.2.2.2.2.2; omega
          rw [hn5] at hcs5 HI
          rw [hn5]
          clear hcell5 hc5 hn5 hin
          by_cases hle : e.x ≤ c.x
          · have hd : decide (e.x ≤ c.x) = true := decide_eq_true hle
            have HLE := Lib.hid hle
            clear hle
            go_wp2_with fail
            go_quiet (fail)
            have HGq := Lib.hid (HI.out.2.2.1.draws nq)
            have HOq : OwnE (wr.drewN nq) base (.slice A4 acc.length c4) acc := (GrownIn.refl (fun _ => False) wr).draws nq |>.own HI.out.1 (fun _ _ h => h)
            have y0' : World.cell? (wr.drewN nq) ⟨b5, o5, none⟩ = some (.int .i64 e.x) := y0
            have y1' : World.cell? (wr.drewN nq) ⟨b5, o5 + 1, none⟩ = some (.int .i64 e.a) := y1
            have y2' : World.cell? (wr.drewN nq) ⟨b5, o5 + 2, none⟩ = some (.int .i64 e.b) := y2
            have hbz : base ≤ (wr.drewN nq).heap.size := by have := HGq.out.size; have := HBZ.out; have := HGb.out.size; omega
            have hla : acc.length ≤ 200000 := by have := HI.out.2.2.2.2.2.2.2; omega
            generalize wr.drewN nq = wd at *
            go_wp2_with (at_builtin; refine wpList_appE rfl _ _ rfl (base := base) (l := acc) (m := [e]) rfl (World.ownsRow.alloc HOq _) rfl (es_one wd e) (by simp only [List.length_singleton]; omega) (by simp; omega) ?_; intro v6 w6 ho6 hg6 hl6 _)
            have HTL := Lib.hid (Es.tail_if HI.out.2.2.2.1)
            have HO6 := Lib.hid ho6
            have HG6 : Hid (GrownIn (blk (.slice A2 na c2')) wb w6) := Lib.hid (NewOr.grown (HGq.out.alloc _) (fun _ _ h => h) HI.out.2.1 hg6)
            have HN6 : Hid (NewOr wb (.slice A2 na c2') v6) := Lib.hid (NewOr.trans HI.out.2.1 (by
              rcases hl6 with h | h
              · exact .inl h
              · exact .inr ⟨_, by have := HGq.out.size; simp; omega, h⟩))
            have HB6 : Hid (∀ k, blk (.slice (if c5 = 1 then some ⟨b5, o5, none⟩ else some ⟨b5, o5 + 3, none⟩) (n5 - 1) (c5 - 1)) k → blk (.slice Ae ne ce) k) := Lib.hid (fun k hk => by rw [HTL.out.2 k hk]; exact HI.out.2.2.2.2.1 b5 rfl)
            have HA6 : Hid (addAll (acc ++ [e]) rest (c :: ch'.drop (j + 1)) = res) := Lib.hid (by rw [← HI.out.2.2.2.2.2.1, addAll_take HLE.out])
            have HW6 : Hid (wt (acc ++ [e]) + wt rest + wt (c :: ch'.drop (j + 1)) ≤ 100000 ∧ (acc ++ [e]).length + rest.length + (nc - j) ≤ 100000) := Lib.hid (by have h9 := HNQ.out; have h1 := HI.out.2.2.2.2.2.2; simp only [wt_append, wt, List.length_append, List.length_cons, List.length_nil] at h1 h9 ⊢; omega)
            clear ho6 hg6 hl6 x0 x1 x2 y0 y1 y2 y0' y1' y2' HOq HI HGq
            go_roundw
            case rel => exact ⟨acc ++ [e], rest, HO6.out, HN6.out, HG6.out, HTL.out.1, HB6.out, HA6.out, HW6.out⟩
            case measure => simp only [lenV]; omega
          · have hd : decide (e.x ≤ c.x) = false := decide_eq_false hle
            have HLE : Hid (¬ e.x ≤ c.x) := Lib.hid hle
            clear hle
            go_wp2_with fail
            go_quiet (fail)
            have HGq := Lib.hid (HI.out.2.2.1.draws nq)
            have HOq : Hid (OwnE (wr.drewN nq) base (.slice A4 acc.length c4) acc) := Lib.hid ((GrownIn.refl (fun _ => False) wr).draws nq |>.own HI.out.1 (fun _ _ h => h))
            have x0' : World.cell? (wr.drewN nq) ⟨w3.heap.size, 0, none⟩ = some (.int .i64 c.x) := x0
            have x1' : World.cell? (wr.drewN nq) ⟨w3.heap.size, 1, none⟩ = some (.int .i64 c.a) := x1
            have x2' : World.cell? (wr.drewN nq) ⟨w3.heap.size, 2, none⟩ = some (.int .i64 c.b) := x2
            have HAL := Lib.hid (addLast_any HOq.out (by have := HGq.out.size; have := HBZ.out; have := HGb.out.size; omega) (by have := HI.out.2.2.2.2.2.2.2; omega) c (by have := HI.out.2.2.2.2.2.2.1; simp only [wt] at this ⊢; omega))
            have HWQ := Lib.hid (show World.heap wr = World.heap (wr.drewN nq) from rfl)
            generalize wr.drewN nq = wd at *
            go_wp2_with fail
            refine HAL.out.mono ?_
            rintro e5 w5 ⟨v5, rfl, ho5, hg5, hn5⟩
            have HGG : Hid (GrownIn (blk (.slice A2 na c2')) wb w5) := Lib.hid (NewOr.grown HGq.out (fun _ _ h => h) HI.out.2.1 hg5)
            have HN5 : Hid (NewOr w (.slice As 0 cs) v5) := Lib.hid (NewOr.trans HNO.out (NewOr.trans (NewOr.mono HI.out.2.1 HGb.out.size) (NewOr.mono hn5 (Nat.le_trans HGb.out.size HGq.out.size))))
            have HG5 : Hid (GrownIn X w w5) := Lib.hid (HGb.out.step HGG.out (fun b hb h => by have h1 := NewOr.sub HNO.out b hb h; have h2 := HX.out; rw [h2]; exact .inl h1))
            have HC5 : Hid (w5.ownsRow bc 83 3 (.slice (some ⟨gc, 0, none⟩) nc cc) nc (flatE ch')) := Lib.hid (HGG.out.own (HGr.out.own HCR.out (fun _ _ h => h)) (fun k hk hk' => NewOr.apart HNO.out ASC.out (fun k hk => (HCB.out k hk).2) k hk hk'))
            have HEV5 : Hid (Es w5 (.slice (some ⟨b5, o5, none⟩) n5 c5) (e :: rest)) := Lib.hid (HGG.out.es HI.out.2.2.2.1 (fun k hk => HVE.out k (HI.out.2.2.2.2.1 k hk)))
            have HO5 := Lib.hid ho5
            have HST : Hid (addAll (addLastP acc c) (e :: rest) (ch'.drop (j + 1)) = res) := Lib.hid (by rw [← HI.out.2.2.2.2.2.1, addAll_stop (fun e' h => by simp only [List.getElem?_cons_zero, Option.some.injEq] at h; subst h; have := HLE.out; omega)])
            have HW5 : Hid (wt (addLastP acc c) + wt (e :: rest) + wt (ch'.drop (j + 1)) ≤ 100000 ∧ (addLastP acc c).length + (e :: rest).length + (nc - (j + 1)) ≤ 100000) := Lib.hid (by have h9 := HNQ.out; have h1 := HI.out.2.2.2.2.2.2; have h2 := addLast_wt acc c; have h3 := addLast_len acc c; simp only [wt] at h1 h2 ⊢; omega)
            have HEB5 := Lib.hid HI.out.2.2.2.2.1
            clear HAL ho5 hg5 hn5 x0 x1 x2 x0' x1' x2' HI HWQ HOq HGq HGG
            go_wp2_with fail
            go_roundw
            case rel => exact ⟨j + 1, addLastP acc c, (e :: rest), by omega, by go_num, HO5.out, HN5.out, HEV5.out, HEB5.out, HC5.out, HG5.out, HST.out, HW5.out⟩
            case measure => simp [intOf]; omega
    · have q0 : (nc : Int) ≤ (j : Int) := by omega
      have HSV := Lib.hid hrel.out.1
      have HNO := Lib.hid hrel.out.2.1
      have HG := Lib.hid hrel.out.2.2.2.2.2.1
      have hOv := hrel.out.1
      have hEv := hrel.out.2.2.1
      obtain ⟨A2, c2', rfl, hcs2, hms2, _⟩ := id hrel.out.1.es
      obtain ⟨A3, c3', rfl, hcs3, hms3, _⟩ := id hrel.out.2.2.1
      have hlen : acc.length + rest.length ≤ 100000 := by have := hrel.out.2.2.2.2.2.2.2.2; omega
      have HR : Hid (acc ++ rest = res) := Lib.hid (by
        have h1 := hrel.out.2.2.2.2.2.2.1
        rw [List.drop_eq_nil_of_le (by rw [HCL.out]; omega)] at h1
        exact h1)
      have hbz : base ≤ w3.heap.size := by have := HG.out.size; omega
      simp only [maxLen] at hms2 hms3
      clear hrel
      go_wp2_with (at_builtin; refine wpList_appE rfl _ _ rfl (base := base) (l := acc) (m := rest) rfl hOv rfl hEv (by omega) hbz ?_; intro v6 w6 ho6 hg6 hl6 _)
      go_ret
      refine ⟨v6, ch', rfl, HP.out, HPW.out, by rw [HRES.out, ← HR.out]; exact ho6, ?_, ?_⟩
      · have h := HG.out.step (GrownIn.of_own hg6) (fun b hb h => by have h1 := NewOr.sub HNO.out b hb h; have h2 := HX.out; rw [h2]; exact .inl h1)
        rw [HX.out] at h
        exact h
      · refine NewOr.trans HNO.out ?_
        rcases hl6 with h | h
        · exact .inl h
        · exact .inr ⟨_, HG.out.size, h⟩



end Go.Proofs.Ytclnepijbnhdfaa
