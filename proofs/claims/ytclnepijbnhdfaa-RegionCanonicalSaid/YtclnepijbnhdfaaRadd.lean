/-
  add, in and sameRuns of the reference: a run added to runs, a column among runs, two lists of runs compared.
-/
import Derived.Test.YtclnepijbnhdfaaApp
import Derived.Test.YtclnepijbnhdfaaRuse
import Derived.IntWalk
namespace Go.Proofs.Ytclnepijbnhdfaa
open Go.RowKit

theorem flat2_at : ∀ {rs : Runs} {j : Nat} {p : Int × Int}, rs[j]? = some p → (flat2 rs)[2 * j]? = some p.1 ∧ (flat2 rs)[2 * j + 1]? = some p.2
  | [], j, p, h => by simp at h
  | q :: rs, 0, p, h => by
    simp only [List.getElem?_cons_zero, Option.some.injEq] at h
    subst h
    exact ⟨rfl, rfl⟩
  | q :: rs, j + 1, p, h => by
    rw [List.getElem?_cons_succ] at h
    have ih := flat2_at h
    have e : flat2 (q :: rs) = q.1 :: q.2 :: flat2 rs := rfl
    rw [e, show 2 * (j + 1) = 2 * j + 1 + 1 by omega, List.getElem?_cons_succ, List.getElem?_cons_succ, List.getElem?_cons_succ, List.getElem?_cons_succ]
    exact ih

theorem Is.drew {w : World} {v : Value} {l : List Int} (h : Is w v l) : Is w.drew v l := h

theorem flat2_append (a b : Runs) : flat2 (a ++ b) = flat2 a ++ flat2 b := List.flatMap_append

def AddRel (rs : Runs) (x0 x1 : Int) (w wr : World) (lo hi : Value) (X0 X1 : Int) (j : Nat) (low high : Runs) : Prop :=
  OwnI wr w.heap.size lo (flat2 low) ∧ OwnI wr w.heap.size hi (flat2 high) ∧ Apart lo hi ∧ Below w.heap.size w wr ∧ addGo (rs.drop j) low X0 X1 high = addP rs x0 x1 ∧ low.length + high.length ≤ j

set_option maxRecDepth 100000 in
set_option maxHeartbeats 4000000 in
theorem add_any {w : World} {v : Value} {rs : Runs} (h : Is w v (flat2 rs)) (x0 x1 : Int) (hl : rs.length ≤ 400000) :
    Calls Try.prog 70 #[v, .int .i64 x0, .int .i64 x1] w fun e w' => ∃ u, e = .returned u ∧ OwnI w' w.heap.size u (flat2 (addP rs x0 x1)) ∧ Below w.heap.size w w' := by
  obtain ⟨A, c, rfl, hc, hm, hcell⟩ := h
  simp only [maxLen] at hm
  have HC := Lib.hid hcell
  obtain ⟨len, hn⟩ : ∃ len, (flat2 rs).length = len := ⟨_, rfl⟩
  have hn2 := flat2_len rs
  have HN := Lib.hid hn2
  rw [hn] at hc hn2 ⊢
  obtain ⟨n, hnn⟩ : ∃ n, rs.length = n := ⟨_, rfl⟩
  have HNN := Lib.hid hnn
  have HLEN := Lib.hid hn
  rw [hnn] at hn2 hl
  have HL := Lib.hid hl
  have hlen : len ≤ 800000 := by omega
  have HN2 := Lib.hid hn2
  clear hcell hn hn2 hl hnn
  go_enter Try.func70, Try.ntmps70
  go_wp2_with fail
  go_loopw [1, 2, 7, 8, 9] (fun a b lo hi k wr => ∃ (j i : Nat) (X0 X1 : Int) (low high : Runs), i ≤ len ∧ k = .int .i64 (i : Int) ∧ a = .int .i64 X0 ∧ b = .int .i64 X1 ∧ Hid (i = 2 * j ∧ AddRel rs x0 x1 w wr lo hi X0 X1 j low high)) (fun _ _ _ _ k _ => len - (intOf k).toNat)
  case atStart => exact ⟨0, 0, x0, x1, [], [], by omega, rfl, rfl, rfl, rfl, ownI_nil _ _, ownI_nil _ _, apart_nil _, Below.refl _ _, rfl, by simp⟩
  case round =>
    obtain ⟨j, i, X0, X1, low, high, hj, rfl, rfl, rfl, hrel⟩ := hrel
    have hR := hrel.out.2
    by_cases hlt : i < len
    · have hjn : j < n := by have := hrel.out.1; have := HN2.out; omega
      have hi1 : i + 1 < len := by have := hrel.out.1; have := HN2.out; omega
      obtain ⟨p, hp⟩ : ∃ p, rs[j]? = some p := ⟨_, List.getElem?_eq_getElem (by rw [HNN.out]; exact hjn)⟩
      obtain ⟨b, off, rfl, hb, hcs⟩ := HC.out (by rw [HLEN.out]; omega)
      have hf := flat2_at hp
      rw [← hrel.out.1] at hf
      have T0 := Lib.hid (hcs i p.1 hf.1)
      have T1 := Lib.hid (hcs (i + 1) p.2 hf.2)
      have HB := Lib.hid hR.2.2.2.1
      have t0 := (HB.out.cell (p := ⟨b, off + i, none⟩) hb).trans T0.out
      have t1 := (HB.out.cell (p := ⟨b, off + (i + 1), none⟩) hb).trans T1.out
      have HD := Lib.hid (drop_at hp)
      have q0 : (i : Int) < len := by omega
      have q1 : (0 : Int) ≤ i := by omega
      have q2 : (i : Int) + 1 < len := by omega
      have hsz := HB.out.size
      have hbr : b < wr.heap.size := Nat.lt_of_lt_of_le hb hsz
      have HJ := Lib.hid hrel.out.1
      have HRL := Lib.hid hR
      have hll : low.length + high.length ≤ 400000 := by have := hR.2.2.2.2.2; have := HL.out; omega
      have hl1 := flat2_len low
      have hl2 := flat2_len high
      have HPE : Hid (p = (p.1, p.2)) := Lib.hid rfl
      clear hf hp hcs hR hrel
      obtain ⟨pa, pb⟩ := p
      simp only at t0 t1
      by_cases h1 : pb < X0
      · have HG := Lib.hid (show addGo ((pa, pb) :: rs.drop (j + 1)) low X0 X1 high = addGo (rs.drop (j + 1)) (low ++ [(pa, pb)]) X0 X1 high by rw [addGo]; exact if_pos h1)
        go_wp2_with fail
        have f1 : IntKind.i64.wrap ((i : Int) + 1) = (i : Int) + 1 := IntWalk.i64_in _ (by omega)
        have f2 : (0 : Int) ≤ (i : Int) + 1 := by omega
        have f3 : ((i : Int) + 1).toNat = i + 1 := by omega
        have hO := HRL.out.1
        have hO2 := HRL.out.2.1
        have s0 := And.intro t0 t1
        go_region_held3 (fun W => W.cell? ⟨b, off + i, none⟩ = some (.int .i64 pa) ∧ W.cell? ⟨b, off + (i + 1), none⟩ = some (.int .i64 pb))
          (first
            | go_keep
            | exact s1)
          (first
            | (refine step_appI (by rfl) _ _ (by rfl) (base := w.heap.size) (l := flat2 low) (m := [pa, pb]) (by rfl) (World.ownsRow.drew (World.ownsRow.alloc hO _)) (by rfl) (is_two wr pa pb).drew (by simp; omega) (by simp; omega) ?_; intro v1 w1 ho1 hg1 hl1' _; have hbb := below_grown0 (HB.out.alloc hsz _).drew (by simp; omega) (Nat.le_refl _) ((World.ownsRow.alloc hO _).drew) hg1; have s1 := And.intro ((hbb.cell (p := ⟨b, off + i, none⟩) hb).trans T0.out) ((hbb.cell (p := ⟨b, off + (i + 1), none⟩) hb).trans T1.out)))
        have HN := Lib.hid (own_else0 ((World.ownsRow.alloc hO2 _).drew) hg1 HRL.out.2.2.1.symm hl1')
        have HO1 := Lib.hid ho1
        have HB1 := Lib.hid hbb
        clear f1 f2 f3 hbb hg1 ho1 hl1' s0 s1 t0 t1 hO hO2
        go_wp2_with fail
        go_roundw
        case rel => exact ⟨j + 1, i + 2, X0, X1, low ++ [(pa, pb)], high, by omega, by go_num, rfl, rfl, Lib.hid ⟨by have := HJ.out; omega, by rw [flat2_append]; exact HO1.out, HN.out.1, HN.out.2.symm, HB1.out, by rw [← HG.out, ← HD.out]; exact HRL.out.2.2.2.2.1, by have := HRL.out.2.2.2.2.2; simp; omega⟩⟩
        case measure => simp [intOf]; omega
      · by_cases h2 : X1 < pa
        · have h3 : X0 ≤ pb := by omega
          have HG := Lib.hid (show addGo ((pa, pb) :: rs.drop (j + 1)) low X0 X1 high = addGo (rs.drop (j + 1)) low X0 X1 (high ++ [(pa, pb)]) by rw [addGo]; exact (if_neg h1).trans (if_pos h2))
          go_wp2_with fail
          have f1 : IntKind.i64.wrap ((i : Int) + 1) = (i : Int) + 1 := IntWalk.i64_in _ (by omega)
          have f2 : (0 : Int) ≤ (i : Int) + 1 := by omega
          have f3 : ((i : Int) + 1).toNat = i + 1 := by omega
          have hO := HRL.out.1
          have hO2 := HRL.out.2.1
          have s0 := And.intro t0 t1
          go_region_held3 (fun W => W.cell? ⟨b, off + i, none⟩ = some (.int .i64 pa) ∧ W.cell? ⟨b, off + (i + 1), none⟩ = some (.int .i64 pb))
            (first
              | go_keep
              | exact s1)
            (first
              | (refine step_appI (by rfl) _ _ (by rfl) (base := w.heap.size) (l := flat2 high) (m := [pa, pb]) (by rfl) (World.ownsRow.drew (World.ownsRow.alloc hO2 _)) (by rfl) (is_two wr pa pb).drew (by simp; omega) (by simp; omega) ?_; intro v1 w1 ho1 hg1 hl1' _; have hbb := below_grown0 (HB.out.alloc hsz _).drew (by simp; omega) (Nat.le_refl _) ((World.ownsRow.alloc hO2 _).drew) hg1; have s1 := And.intro ((hbb.cell (p := ⟨b, off + i, none⟩) hb).trans T0.out) ((hbb.cell (p := ⟨b, off + (i + 1), none⟩) hb).trans T1.out)))
          have HN := Lib.hid (own_else0 ((World.ownsRow.alloc hO _).drew) hg1 HRL.out.2.2.1 hl1')
          have HO1 := Lib.hid ho1
          have HB1 := Lib.hid hbb
          clear f1 f2 f3 hbb hg1 ho1 hl1' s0 s1 t0 t1 hO hO2
          go_wp2_with fail
          go_roundw
          case rel => exact ⟨j + 1, i + 2, X0, X1, low, high ++ [(pa, pb)], by omega, by go_num, rfl, rfl, Lib.hid ⟨by have := HJ.out; omega, HN.out.1, by rw [flat2_append]; exact HO1.out, HN.out.2, HB1.out, by rw [← HG.out, ← HD.out]; exact HRL.out.2.2.2.2.1, by have := HRL.out.2.2.2.2.2; simp; omega⟩⟩
          case measure => simp [intOf]; omega
        · have HG := Lib.hid (show addGo ((pa, pb) :: rs.drop (j + 1)) low X0 X1 high = addGo (rs.drop (j + 1)) low (min X0 pa) (max X1 pb) high by rw [addGo]; exact (if_neg h1).trans (if_neg h2))
          have h3 : X0 ≤ pb := by omega
          have h4 : pa ≤ X1 := by omega
          go_wp2_with fail
          go_roundw
          case rel => exact ⟨j + 1, i + 2, min X0 pa, max X1 pb, low, high, by omega, by go_num, rfl, rfl, Lib.hid ⟨by have := HJ.out; omega, HRL.out.1, HRL.out.2.1, HRL.out.2.2.1, HB.out, by rw [← HG.out, ← HD.out]; exact HRL.out.2.2.2.2.1, by have := HRL.out.2.2.2.2.2; omega⟩⟩
          case measure => simp [intOf]; omega
    · have q0 : (len : Int) ≤ (i : Int) := by omega
      have HDn := Lib.hid (show rs.drop j = [] from List.drop_eq_nil_of_le (by rw [HNN.out]; have := hrel.out.1; have := HN2.out; omega))
      have HB := Lib.hid hR.2.2.2.1
      have hO := hR.1
      have hO2 := hR.2.1
      have HA := Lib.hid hR.2.2.1
      have HE := Lib.hid hR.2.2.2.2.1
      have hll : (flat2 low).length + (flat2 high).length ≤ 800000 := by have := hR.2.2.2.2.2; have := hrel.out.1; have := HN2.out; have := HL.out; have := flat2_len low; have := flat2_len high; omega
      have hsz := HB.out.size
      obtain ⟨Ah, ch, rfl, hch1, hch2, _⟩ := id hO2.is
      clear hR hrel
      go_wp2_with (first
        | (at_builtin; have _t := hO; refine wpList_appI rfl _ _ rfl (base := w.heap.size) (l := flat2 low) (m := [X0, X1]) rfl (World.ownsRow.alloc hO _) rfl (is_two wr X0 X1) (by simp; omega) (by simp; omega) ?_; intro v1 w1 ho1 hg1 hl1' _; have HN := Lib.hid (own_else0 (World.ownsRow.alloc hO2 _) hg1 HA.out.symm hl1'); have HB1 := Lib.hid (below_grown HB.out hsz (Nat.le_refl _) hO hg1); have hs1 := HB1.out.size; clear hO hO2 hg1 hl1')
        | (at_builtin; refine wpList_appI rfl _ _ rfl (base := w.heap.size) (l := flat2 low ++ [X0, X1]) (m := flat2 high) rfl ho1 rfl (OwnI.is (l := flat2 high) HN.out.1) (by simp; omega) (by omega) ?_; intro v2 w2 ho2 hg2 _ _; have HB2 := Lib.hid (below_grown0 HB1.out hs1 (Nat.le_refl _) ho1 hg2); clear ho1 hg2)
        | go_in)
      go_ret
      refine ⟨_, rfl, ?_, HB2.out⟩
      have e : addP rs x0 x1 = low ++ (X0, X1) :: high := by rw [← HE.out, HDn.out]; rfl
      rw [e, flat2_append]
      have e2 : flat2 ((X0, X1) :: high) = [X0, X1] ++ flat2 high := rfl
      rw [e2, ← List.append_assoc]
      exact ho2

end Go.Proofs.Ytclnepijbnhdfaa
