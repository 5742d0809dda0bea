/-
  Package state: slices.Grow and slices.Concat of callbacks.
-/
import Derived.Test.YthedglfocjljjaaGreatDoorSca
import Derived.Lib.AppendZerosOnto
import Derived.Lib.SliceRun
namespace Go.Proofs.YthedglfocjljjaaGreatDoor
open Go.RowKit

set_option maxRecDepth 100000 in
set_option maxHeartbeats 2000000 in
theorem grow_any {w : World} {n : Nat} (hn : n ≤ 4000) : Calls Tryz.prog 101 #[.slice none 0 0, .int .i64 (n : Int)] w fun e w' => ∃ A c, e = .returned (.slice A 0 c) ∧ w'.ownsRow w.heap.size 50 1 (.slice A 0 c) 0 [] ∧ Below w.heap.size w w' := by
  by_cases h0 : n = 0
  · subst h0
    go_enter Tryz.func101, Tryz.ntmps101
    go_wp2_with fail
    go_ret
    exact ⟨_, _, rfl, World.ownsRow_nil w _ 50 1, Below.refl _ _⟩
  · obtain ⟨i, hi, hz, hs, hb⟩ := info_parts w32_info
    have hold : (Builtin.firstCells i.size 0 (.slice none 0 0)).run Tryz.prog w.drew = .ok ([] : List Value).toArray w.drew := run_firstCells_none w.drew i.size 0 0 0
    have hrz : ∀ ty, (Builtin.append_ #[26, 3] ty #[.slice none 0 0, .int .i64 (n : Int)]).run Tryz.prog w =
        .ok (.slice (some ⟨w.heap.size, 0, none⟩) n (grownCap w n 0 50)) (w.drew.alloc (.cells (Builtin.zeroCells (Value.int .u32 0).cells n ++ Builtin.zeroCells (Value.int .u32 0).cells (grownCap w n 0 50 - n)) 50)) := fun ty => by
      have h := Lib.run_append_grow_zeros (P := Tryz.prog) w 26 3 ty 50 i _ .i64 .i64 Tryz.underlying26 Tryz.underlying3 hi hz none 0 0 [] hold n (by omega) (by omega) (by omega) (by omega) (by rw [hb]; omega) (by rw [hb]; exact growslice_fits (by omega) (by omega))
      simp only [Nat.zero_add] at h
      simpa using h
    have hGn : n ≤ grownCap w n 0 50 := grownCap_ge w _ _ _
    have hG63 : grownCap w n 0 50 ≤ maxLen := grownCap_le_maxLen w n 0 50 (by unfold maxLen; omega)
    obtain ⟨G, hG⟩ : ∃ G, G = grownCap w n 0 50 := ⟨_, rfl⟩
    rw [← hG] at hrz hGn hG63
    obtain ⟨Z, hZ⟩ : ∃ Z, Z = Builtin.zeroCells (Value.int .u32 0).cells n ++ Builtin.zeroCells (Value.int .u32 0).cells (G - n) := ⟨_, rfl⟩
    have hZs : Z.size = G * 1 := by
      rw [hZ]
      simp [size_zeroCells, Value.cells]
      omega
    rw [← hZ] at hrz
    have HO1 := Lib.hid (World.ownsRow_made (base := w.heap.size) (size := 1) (e := 50) w.drew Z G (Nat.le_refl _) hG63 hZs)
    have n0 : (0 : Int) < n := by omega
    simp only [maxLen] at hG63
    clear hold hG hZ hZs hi hz hs hb
    go_enter Tryz.func101, Tryz.ntmps101
    go_wp2_with (at_builtin; refine Lib.wpList_append_run _ rfl _ _ _ _ rfl _ _ rfl rfl _ _ (hrz _) ?_)
    go_ret
    exact ⟨_, _, rfl, HO1.out, (Below.refl _ _).drew.alloc (Nat.le_refl _) _⟩

theorem sn_own_shape {W : World} {base : Nat} {e : TypeId} {size : Nat} {v : Value} {n : Nat} {xs : List Value} (h : W.ownsRow base e size v n xs) : ∃ A c, v = .slice A n c ∧ n ≤ c ∧ c ≤ maxLen := by
  rcases h.2 with ⟨rfl, rfl⟩ | ⟨g, cap, cur, rfl, _, _, hn, hm, _⟩
  · exact ⟨none, 0, rfl, Nat.le_refl _, by simp [maxLen]⟩
  · exact ⟨_, cap, rfl, hn, hm⟩
abbrev Uq := List Nat × Value
def catU (Q : List Uq) : List Nat := Q.flatMap Prod.fst
theorem catU_next {Q : List Uq} {i : Nat} {q : Uq} (h : Q[i]? = some q) : catU (Q.take (i + 1)) = catU (Q.take i) ++ q.1 := by
  unfold catU
  rw [List.take_add_one, h, List.flatMap_append]
  simp
set_option maxRecDepth 100000 in
set_option maxHeartbeats 8000000 in
theorem concat_any {w : World} {A2 : Option Addr} {c2 : Nat} {la lb : List Nat} {va vb : Value} (h : Sn w 1 (.slice A2 2 c2) 2 [va, vb]) (ha : Sn w 1 va la.length (uL la)) (hb : Sn w 1 vb lb.length (uL lb)) (hla : la.length ≤ 2000) (hlb : lb.length ≤ 2000) :
    Calls Tryz.prog 78 #[.slice A2 2 c2] w fun e w' => ∃ A c, e = .returned (.slice A (la ++ lb).length c) ∧ w'.ownsRow w.heap.size 50 1 (.slice A (la ++ lb).length c) (la ++ lb).length (uL (la ++ lb)) ∧ Below w.heap.size w w' := by
  obtain ⟨Q, hQ⟩ : ∃ Q : List Uq, Q = [(la, va), (lb, vb)] := ⟨_, rfl⟩
  have hval : [va, vb] = Q.map Prod.snd := by rw [hQ]; rfl
  rw [hval] at h
  have hlen : Q.length = 2 := by rw [hQ]; rfl
  have hall : la ++ lb = catU Q := by rw [hQ]; simp [catU]
  have HQ : ∀ q ∈ Q, Sn w 1 q.2 q.1.length (uL q.1) ∧ q.1.length ≤ 2000 := by
    intro q hq
    rw [hQ] at hq
    simp only [List.mem_cons, List.not_mem_nil, or_false] at hq
    rcases hq with rfl | rfl
    · exact ⟨ha, hla⟩
    · exact ⟨hb, hlb⟩
  have HS : ∀ i, (catU (Q.take i)).length ≤ 4000 := by
    intro i
    have hle : ((Q.take i).flatMap Prod.fst).length ≤ (Q.flatMap Prod.fst).length := by
      conv => rhs; rw [← List.take_append_drop i Q]
      rw [List.flatMap_append, List.length_append]
      omega
    have h2 : (Q.flatMap Prod.fst).length = la.length + lb.length := by
      rw [← List.length_append, hall]
      rfl
    unfold catU
    omega
  rw [hall]
  clear hall hQ hval ha hb hla hlb
  have HH := Lib.hid h
  have HL := Lib.hid hlen
  obtain ⟨b2, off2, rfl, hb2, -⟩ := h.at (by omega) (Below.refl _ _)
  have HC := fun (W : World) (hw : Below w.heap.size w W) (i : Nat) (q : Uq) (hi : Q[i]? = some q) => Lib.hid (show b2 < W.heap.size ∧ W.cell? ⟨b2, off2 + i, none⟩ = some q.2 from by
    obtain ⟨b9, off9, e9, hl9, h9⟩ := HH.out.at (by omega) hw
    simp only [Option.some.injEq, Addr.mk.injEq, and_true] at e9
    obtain ⟨rfl, rfl⟩ := e9
    exact ⟨hl9, h9 i _ (by rw [List.getElem?_map, hi]; rfl)⟩)
  clear h
  obtain ⟨T, hT⟩ : ∃ T, catU Q = T := ⟨_, rfl⟩
  obtain ⟨nt, hnt⟩ : ∃ nt, T.length = nt := ⟨_, rfl⟩
  rw [hT, hnt]
  have HT := Lib.hid hT
  have HNT := Lib.hid hnt
  clear hT hnt
  go_enter Tryz.func78, Tryz.ntmps78
  go_wp2_with fail
  go_loopw [3, 11] (fun s3 s11 wr => ∃ (i m : Nat), i ≤ 2 ∧ s11 = .int .i64 (i : Int) ∧ s3 = .int .i64 (m : Int) ∧ Hid (m = (catU (Q.take i)).length) ∧ Hid (Below w.heap.size w wr)) (fun _ s11 _ => leftN 2 s11)
  case atStart => exact ⟨0, 0, by omega, rfl, rfl, Lib.hid rfl, Lib.hid (Below.refl _ _)⟩
  case round =>
    obtain ⟨i, m, hin, rfl, rfl, HM, J⟩ := hrel
    by_cases hlt : i < 2
    · have q0 : (0 : Int) ≤ i := by omega
      have q1 : (i : Int) < 2 := by omega
      obtain ⟨q, hq⟩ : ∃ q, Q[i]? = some q := ⟨_, List.getElem?_eq_getElem (by rw [HL.out]; exact hlt)⟩
      have HCi := HC _ J.out i q hq
      obtain ⟨HSq, hlq⟩ := HQ q (List.mem_of_getElem? hq)
      have HM2 := Lib.hid (show (catU (Q.take (i + 1))).length = m + q.1.length from by rw [catU_next hq, List.length_append, HM.out])
      have hm4 := HS (i + 1)
      rw [HM2.out] at hm4
      obtain ⟨ql, qv⟩ := q
      obtain ⟨Aq, cq, hvq, -, -⟩ := HSq.shape
      dsimp only at hvq HCi HM2 hm4 hlq
      subst hvq
      generalize ql.length = nq at *
      have k1 := HCi.out.1
      have k2 := HCi.out.2
      have k4 : ¬ ((m : Int) + (nq : Int)) < 0 := by omega
      have k5 : wrap64 ((m : Int) + (nq : Int)) = (m : Int) + (nq : Int) := IntWalk.wrap64_in _ (by omega)
      clear HSq hq HCi HM HQ HS HC
      go_wp2_with fail
      go_roundw
      case rel => exact ⟨i + 1, m + nq, by omega, by go_num, (by first | rfl | (rw [k5, Int.natCast_add]) | rw [Int.natCast_add]), Lib.hid HM2.out.symm, J⟩
      case measure =>
        unfold leftN
        simp [RowKit.intOf]
        omega
    · obtain rfl : i = 2 := by omega
      have hm4 := HS 2
      rw [← HM.out] at hm4
      have CG := Lib.hid (grow_any (w := wr) hm4)
      go_wp2_with fail
      refine CG.out.mono ?_
      rintro e w2 ⟨Ag, cg, rfl, hog, hbg⟩
      have J2 := Lib.hid (((HO.start J.out).rowB hbg (ownO_mono hog J.out.size) (fun k hk => (World.ownsRow.lt hog k hk).1)))
      clear hog hbg CG HM
      go_wp2_with fail
      go_loopw [6, 27] (fun s6 s27 wr => ∃ (i : Nat) (Ar : Option Addr) (cr m : Nat), i ≤ 2 ∧ s27 = .int .i64 (i : Int) ∧ s6 = .slice Ar m cr ∧ Hid (m = (catU (Q.take i)).length) ∧ Hid (HO w wr [rowO w.heap.size 50 1 (.slice Ar m cr) m (uL (catU (Q.take i)))])) (fun _ s27 _ => leftN 2 s27)
      case atStart => exact ⟨0, Ag, cg, 0, by omega, rfl, rfl, Lib.hid rfl, J2⟩
      case round =>
        clear J2 J
        obtain ⟨i, Ar, cr, m2, hin, rfl, rfl, HM, J⟩ := hrel
        by_cases hlt : i < 2
        · have q0 : (0 : Int) ≤ i := by omega
          have q1 : (i : Int) < 2 := by omega
          obtain ⟨q, hq⟩ : ∃ q, Q[i]? = some q := ⟨_, List.getElem?_eq_getElem (by rw [HL.out]; exact hlt)⟩
          have HCi := HC _ J.out.below i q hq
          obtain ⟨HSq, hlq⟩ := HQ q (List.mem_of_getElem? hq)
          have HN2 := Lib.hid (catU_next hq)
          have HM2 := Lib.hid (show (catU (Q.take (i + 1))).length = m2 + q.1.length from by rw [catU_next hq, List.length_append, HM.out])
          have hm5 := HS (i + 1)
          rw [HM2.out] at hm5
          obtain ⟨ql, qv⟩ := q
          obtain ⟨Aq, cq, hvq, -, -⟩ := HSq.shape
          dsimp only at hvq HCi HM2 hm5 hlq HN2 HSq
          subst hvq
          have HSq := Lib.hid HSq
          have k1 := HCi.out.1
          have k2 := HCi.out.2
          have HO1 := Lib.hid (oneCell_uL ql)
          generalize hnq : ql.length = nq at *
          clear hq HCi hnq HQ HS HC
          go_wp2_with (at_builtin; refine wpList_appO rfl rowU _ _ rfl (base := w.heap.size) (n := m2) (xs := uL (catU (Q.take i))) rfl (show HO w _ ([] ++ rowO w.heap.size 50 1 _ m2 _ :: []) from J.out).at rfl (HSq.out.below J.out.below) HO1.out (by omega) J.out.below.size ?_; intro v5 w5 ho5 hg5 hw5; obtain ⟨A5, c5, hv5, -, -⟩ := sn_own_shape ho5; subst hv5; replace J := Lib.hid ((show HO w _ ([] ++ rowO w.heap.size 50 1 _ m2 _ :: []) from J.out).grow ho5 hg5 hw5); clear ho5 hg5 hw5)
          go_roundw
          case rel => exact ⟨i + 1, A5, c5, m2 + nq, by omega, by go_num, rfl, Lib.hid HM2.out.symm, Lib.hid (by rw [HN2.out, uL, List.map_append]; exact J.out)⟩
          case measure =>
            unfold leftN
            simp [RowKit.intOf]
            omega
        · obtain rfl : i = 2 := by omega
          have hT : Q.take 2 = Q := by rw [← HL.out, List.take_length]
          rw [hT] at J HM
          clear hT
          rw [HT.out] at J HM
          obtain rfl : m2 = nt := by rw [HM.out, HNT.out]
          clear HM HNT
          go_wp2_with fail
          go_ret
          exact ⟨_, _, rfl, (show HO w _ ([] ++ rowO w.heap.size 50 1 _ m2 _ :: []) from J.out).at, J.out.below⟩

end Go.Proofs.YthedglfocjljjaaGreatDoor
