/-
  Package state: Check.
-/
import Derived.Test.YthedglfocjljjaaGreatDoorSrc
import Derived.Test.YthedglfocjljjaaGreatDoorTra
import Derived.Test.YthedglfocjljjaaGreatDoorMgc
import Derived.Test.YthedglfocjljjaaGreatDoorSra
import Derived.Laws.MakeOwn
namespace Go.Proofs.YthedglfocjljjaaGreatDoor
open Go.RowKit

structure RG : Prop where
  new : ∀ {w : World} {va : Value} {a : List R}, Rs w va a → a.length ≤ 500 → Calls Tryz.prog 61 #[va] w (Rgn.Lim (canS a) w)
  inter : ∀ {w : World} {va vb : Value} {a b : List R}, Rs w va a → Rs w vb b → a.length + b.length ≤ 500 → Calls Tryz.prog 58 #[va, vb] w (Rgn.Lim (Rgn.combP (fun x y => x && y) a b) w)

set_option maxRecDepth 100000 in
theorem vside_any (n : Int) (w : World) : Calls Tryz.prog 67 #[.int .i64 n] w fun e w' => e = .returned (.bool (decide (1 ≤ n) && decide (n ≤ 256))) ∧ w = w' := by
  by_cases h1 : 1 ≤ n
  · by_cases h2 : n ≤ 256
    · rw [decide_eq_true h1, decide_eq_true h2]
      go_enter Tryz.func67, Tryz.ntmps67
      go_wp2_with fail
      go_ret
      exact ⟨rfl, rfl⟩
    · rw [decide_eq_false h2, Bool.and_false]
      go_enter Tryz.func67, Tryz.ntmps67
      go_wp2_with fail
      go_ret
      exact ⟨rfl, rfl⟩
  · rw [decide_eq_false h1, Bool.false_and]
    go_enter Tryz.func67, Tryz.ntmps67
    go_wp2_with fail
    go_ret
    exact ⟨rfl, rfl⟩

set_option maxRecDepth 100000 in
theorem vdest_any (x y : Int) (w : World) : Calls Tryz.prog 39 #[.agg #[.int .i64 x, .int .i64 y]] w fun e w' => e = .returned (.bool (sidB x y)) ∧ Below w.heap.size w w' := by
  have J := Lib.hid ((HO.nil w).alloc [.int .i64 x, .int .i64 y] 25)
  unfold sidB
  have CX := fun W => Lib.hid (vside_any x W)
  have CY := fun W => Lib.hid (vside_any y W)
  generalize (decide (1 ≤ x) && decide (x ≤ 256)) = bx at *
  generalize (decide (1 ≤ y) && decide (y ≤ 256)) = by' at *
  by_cases h0 : x = 0 ∧ y = 0
  · obtain ⟨rfl, rfl⟩ := h0
    clear CX CY
    go_enter Tryz.func39, Tryz.ntmps39
    go_wp2_with fail
    go_ret
    exact ⟨rfl, J.out.below⟩
  · have e1 : (decide (x = 0) && decide (y = 0)) = false := by
      simp only [Bool.and_eq_false_iff, decide_eq_false_iff_not]
      omega
    rw [e1, Bool.false_or]
    clear e1
    by_cases hx : x = 0
    · have hy : (y == 0) = false := by
        subst hx
        simpa using h0
      subst hx
      clear h0
      cases bx with
      | false =>
        go_enter Tryz.func39, Tryz.ntmps39
        go_wp2_with fail
        refine (CX _).out.mono ?_
        rintro e w1 ⟨rfl, rfl⟩
        go_wp2_with fail
        go_ret
        exact ⟨rfl, J.out.below⟩
      | true =>
        go_enter Tryz.func39, Tryz.ntmps39
        go_wp2_with fail
        refine (CX _).out.mono ?_
        rintro e w1 ⟨rfl, rfl⟩
        go_wp2_with fail
        refine (CY _).out.mono ?_
        rintro e w1 ⟨rfl, rfl⟩
        go_wp2_with fail
        go_ret
        exact ⟨rfl, J.out.below⟩
    · have hy : (x == 0) = false := by simpa using hx
      clear h0
      cases bx with
      | false =>
        go_enter Tryz.func39, Tryz.ntmps39
        go_wp2_with fail
        refine (CX _).out.mono ?_
        rintro e w1 ⟨rfl, rfl⟩
        go_wp2_with fail
        go_ret
        exact ⟨rfl, J.out.below⟩
      | true =>
        go_enter Tryz.func39, Tryz.ntmps39
        go_wp2_with fail
        refine (CX _).out.mono ?_
        rintro e w1 ⟨rfl, rfl⟩
        go_wp2_with fail
        refine (CY _).out.mono ?_
        rintro e w1 ⟨rfl, rfl⟩
        go_wp2_with fail
        go_ret
        exact ⟨rfl, J.out.below⟩

set_option maxRecDepth 100000 in
set_option maxHeartbeats 4000000 in
theorem divi_any {w : World} {xa xb sc : Int} {v : Value} {l : List Px} (h : Pxs w v l) (hs : 1 ≤ sc) (hs4 : sc ≤ 4) : Calls Tryz.prog 38 #[.agg #[.int .i64 xa, .int .i64 xb, v], .int .i64 sc] w fun e w' => e = .returned (.bool (bfB ⟨xa, xb, l⟩ sc)) ∧ Below w.heap.size w w' := by
  have V := fun (W : World) (hb : Below w.heap.size w W) => Lib.hid (valid_any xa xb (h.below hb))
  obtain ⟨Ap, cp, rfl, hq1, hq2⟩ := h.shape
  have J := Lib.hid ((HO.nil w).alloc [.int .i64 xa, .int .i64 xb, .slice Ap l.length cp] 42)
  unfold bfB
  dsimp only
  cases v1 : vBuf xa xb l with
  | false =>
    rw [v1] at V
    rw [Bool.false_and]
    clear v1 h
    generalize l.length = np at *
    go_enter Tryz.func38, Tryz.ntmps38
    go_wp2_with fail
    refine (V _ J.out.below).out.mono ?_
    rintro e w1 ⟨rfl, hb⟩
    replace J := Lib.hid (J.out.step hb)
    clear hb V
    obtain ⟨b0, b1, b2, bf, bl⟩ := (show HO w _ ([] ++ boxO w.heap.size [_, _, _] :: _) from J.out).c3
    go_wp2_with fail
    go_ret
    exact ⟨rfl, J.out.below⟩
  | true =>
    rw [v1] at V
    rw [Bool.true_and]
    obtain ⟨hsa, hsb, -, -⟩ := vBuf_iff.1 v1
    have ra : IntKind.i64.wrap (xa.tmod sc) = xa % sc := by
      rw [Int.tmod_eq_emod_of_nonneg (by omega), IntKind.wrap_i64]
      have := Int.emod_nonneg xa (show sc ≠ 0 by omega)
      have := Int.emod_lt_of_pos xa (show 0 < sc by omega)
      omega
    have rb : IntKind.i64.wrap (xb.tmod sc) = xb % sc := by
      rw [Int.tmod_eq_emod_of_nonneg (by omega), IntKind.wrap_i64]
      have := Int.emod_nonneg xb (show sc ≠ 0 by omega)
      have := Int.emod_lt_of_pos xb (show 0 < sc by omega)
      omega
    have ra2 : xa.tmod sc = xa % sc := Int.tmod_eq_emod_of_nonneg (by omega)
    have rb2 : xb.tmod sc = xb % sc := Int.tmod_eq_emod_of_nonneg (by omega)
    have s0 : ¬ sc = 0 := by omega
    clear v1 h
    generalize l.length = np at *
    by_cases v2 : xa % sc = 0
    · rw [decide_eq_true v2, Bool.true_and]
      by_cases v3 : xb % sc = 0
      · rw [decide_eq_true v3]
        go_enter Tryz.func38, Tryz.ntmps38
        go_wp2_with fail
        refine (V _ J.out.below).out.mono ?_
        rintro e w1 ⟨rfl, hb⟩
        replace J := Lib.hid (J.out.step hb)
        clear hb V
        obtain ⟨b0, b1, b2, bf, bl⟩ := (show HO w _ ([] ++ boxO w.heap.size [_, _, _] :: _) from J.out).c3
        go_wp2_with fail
        go_ret
        exact ⟨rfl, J.out.below⟩
      · rw [decide_eq_false v3]
        have v4 : (xb % sc == 0) = false := by simpa using v3
        go_enter Tryz.func38, Tryz.ntmps38
        go_wp2_with fail
        refine (V _ J.out.below).out.mono ?_
        rintro e w1 ⟨rfl, hb⟩
        replace J := Lib.hid (J.out.step hb)
        clear hb V
        obtain ⟨b0, b1, b2, bf, bl⟩ := (show HO w _ ([] ++ boxO w.heap.size [_, _, _] :: _) from J.out).c3
        go_wp2_with fail
        go_ret
        exact ⟨rfl, J.out.below⟩
    · rw [decide_eq_false v2, Bool.false_and]
      have v4 : (xa % sc == 0) = false := by simpa using v2
      go_enter Tryz.func38, Tryz.ntmps38
      go_wp2_with fail
      refine (V _ J.out.below).out.mono ?_
      rintro e w1 ⟨rfl, hb⟩
      replace J := Lib.hid (J.out.step hb)
      clear hb V
      obtain ⟨b0, b1, b2, bf, bl⟩ := (show HO w _ ([] ++ boxO w.heap.size [_, _, _] :: _) from J.out).c3
      go_wp2_with fail
      go_ret
      exact ⟨rfl, J.out.below⟩

set_option maxRecDepth 100000 in
theorem sl_info : (Tryz.prog.info? 23).map (fun i => (i.zero, i.size, i.bytes)) = some (some (.slice none 0 0), 1, 24) := by kernel_rfl
theorem rowSl : RowTy 81 23 1 24 := ⟨Tryz.underlying81, by
  obtain ⟨i, hi, hz, hs, hb⟩ := info_parts sl_info
  exact ⟨i, _, hi, hz, hs, hb, rfl⟩, by decide, by decide⟩
abbrev Rq := List R × Value
def manyQ (Q : List Rq) : Bool := Q.any fun q => wideB q.1
theorem manyQ_take {Q : List Rq} {i : Nat} (h : manyQ (Q.take i) = true) : manyQ Q = true := by
  unfold manyQ at h ⊢
  rw [List.any_eq_true] at h ⊢
  obtain ⟨q, hq, h⟩ := h
  exact ⟨q, List.mem_of_mem_take hq, h⟩
theorem sn_onec (w : World) (x : Value) (e : TypeId) : Sn (w.alloc (.cells #[x] e)) 1 (.slice (some ⟨w.heap.size, 0, none⟩) 1 1) 1 [x] := by
  refine ⟨_, 1, rfl, Nat.le_refl _, by simp [maxLen], rfl, fun _ => ⟨w.heap.size, 0, rfl, by simp, fun j u hj => ?_⟩⟩
  rw [World.cell?_alloc_at _ _ _ _ rfl]
  simpa using hj

theorem own_shape {W : World} {base : Nat} {e : TypeId} {size : Nat} {v : Value} {n : Nat} {xs : List Value} (h : W.ownsRow base e size v n xs) : ∃ A c, v = .slice A n c ∧ n ≤ c ∧ c ≤ maxLen := by
  rcases h.2 with ⟨rfl, rfl⟩ | ⟨g, cap, cur, rfl, _, _, hn, hm, _⟩
  · exact ⟨none, 0, rfl, Nat.le_refl _, by simp [maxLen]⟩
  · exact ⟨_, cap, rfl, hn, hm⟩
set_option maxRecDepth 100000 in
set_option maxHeartbeats 8000000 in
theorem chkreg_any (G : RG) {w : World} {s : St} {L : List Bv} {vb vd vo vi vc : Value} (h : StAt w s L vb vd vo vi vc) (hf : Few s) :
    Calls Tryz.prog 40 #[stV s vb vd vo vi vc] w fun e w' => e = .returned (.int .i64 (if manyB s = true then 5 else 0)) ∧ Below w.heap.size w w' := by
  have CN := fun (W : World) (hb : Below w.heap.size w W) => And.intro (Lib.hid (G.new (sn_rs (h.dm.below hb)) (by have := hf.dm; omega))) (And.intro (Lib.hid (G.new (sn_rs (h.op.below hb)) (by have := hf.op; omega))) (Lib.hid (G.new (sn_rs (h.ip.below hb)) (by have := hf.ip; omega))))
  unfold Rgn.Lim at CN
  obtain ⟨A, c, rfl, h1, h2⟩ := h.bf.shape
  obtain ⟨Ad, cd, rfl, hd1, hd2⟩ := h.dm.shape
  obtain ⟨Ao, co, rfl, ho1, ho2⟩ := h.op.shape
  obtain ⟨Ai, ci, rfl, hi1, hi2⟩ := h.ip.shape
  obtain ⟨Ac, cc, rfl, hc1, hc2⟩ := h.cb.shape
  have J0 := Lib.hid ((HO.nil w).alloc (stC s (.slice A L.length c) (.slice Ad s.dm.length cd) (.slice Ao s.op.length co) (.slice Ai s.ip.length ci) (.slice Ac s.cb.length cc)) 28)
  clear h hf
  have HR1 := Lib.hid (World.ownsRow_lit (base := w.heap.size) (size := 1) (e := 23) (w.alloc (.cells (stC s (.slice A L.length c) (.slice Ad s.dm.length cd) (.slice Ao s.op.length co) (.slice Ai s.ip.length ci) (.slice Ac s.cb.length cc)).toArray 28)) #[.slice Ad s.dm.length cd, .slice Ao s.op.length co] 2 (by simp) (by simp [maxLen]) rfl)

  obtain ⟨set, bf, sc, tr, dm, op, is, ip, dx, dy, cb⟩ := s
  dsimp only at CN J0 HR1 ⊢
  cases is with
  | false =>
    obtain ⟨r, hr⟩ : ∃ r : Int, (if manyB (⟨set, bf, sc, tr, dm, op, false, ip, dx, dy, cb⟩ : St) = true then 5 else 0) = r := ⟨_, rfl⟩
    rw [hr]
    have HALL : Hid (∀ i, manyQ (([((dm, .slice Ad dm.length cd) : Rq), (op, .slice Ao op.length co)]).take i) = true → r = 5) := Lib.hid (fun i h => by
      rw [← hr, if_pos (manyQ_take h |> fun h => by simpa [manyQ, manyB, Bool.or_assoc] using h)])
    have HNO : Hid (manyQ (([((dm, .slice Ad dm.length cd) : Rq), (op, .slice Ao op.length co)]).take 2) = false → r = 0) := Lib.hid (fun h => by
      rw [← hr, if_neg (by simpa [manyQ, manyB, Bool.or_assoc] using h)])
    clear hr
    have HQ : ∀ q ∈ [((dm, .slice Ad dm.length cd) : Rq), (op, .slice Ao op.length co)], (∃ A n c, q.2 = .slice A n c) ∧ ∀ W, Below w.heap.size w W → Hid (Calls Tryz.prog 61 #[q.2] W fun e w' => ∃ t, e = .returned (.tuple #[t, .int .i64 (if (canS q.1).length ≤ 256 then 0 else 5)]) ∧ Rgn.OwnR w' W.heap.size t (if (canS q.1).length ≤ 256 then canS q.1 else []) ∧ Below W.heap.size W w') := by
      intro q hq
      simp only [List.mem_cons, List.not_mem_nil, or_false] at hq
      rcases hq with rfl | rfl
      · exact ⟨⟨_, _, _, rfl⟩, fun W hb => (CN W hb).1⟩
      · exact ⟨⟨_, _, _, rfl⟩, fun W hb => (CN W hb).2.1⟩
    clear CN
    have J := Lib.hid (J0.out.rowB ((Below.refl _ _).alloc (Nat.le_refl _) _) HR1.out (fun k hk => by injection hk with hk; exact Nat.le_of_eq hk))
    clear J0 HR1
    go_enter Tryz.func40, Tryz.ntmps40
    go_wp2_with fail
    replace J := Lib.hid (show HO w _ [rowO w.heap.size 23 1 _ 2 [.slice Ad dm.length cd, .slice Ao op.length co]] from J.out.sub (.cons_cons _ (.cons _ (List.Sublist.refl _))))
    simp only [World.size_alloc] at J
    go_loopw [22] (fun s22 wr => ∃ (i : Nat), i ≤ 2 ∧ s22 = .int .i64 (i : Int) ∧ Hid (manyQ ([((dm, .slice Ad dm.length cd) : Rq), (op, .slice Ao op.length co)].take i) = false) ∧ Hid (HO w wr [rowO w.heap.size 23 1 (.slice (some ⟨w.heap.size + 1, 0, none⟩) 2 2) 2 ([((dm, .slice Ad dm.length cd) : Rq), (op, .slice Ao op.length co)].map Prod.snd)])) (fun s22 _ => leftN 2 s22)
    case atStart => exact ⟨0, by omega, rfl, Lib.hid rfl, J⟩
    case round =>
      clear J
      obtain ⟨i, hin, rfl, HM, J⟩ := hrel
      by_cases hlt : i < 2
      · have q0 : (0 : Int) ≤ i := by omega
        have q1 : (i : Int) < 2 := by omega
        obtain ⟨q, hq⟩ : ∃ q, ([((dm, .slice Ad dm.length cd) : Rq), (op, .slice Ao op.length co)])[i]? = some q := ⟨_, List.getElem?_eq_getElem (by simpa using hlt)⟩
        have CQ := HQ q (List.mem_of_getElem? hq)
        obtain ⟨Aq, nq, cq, hvq⟩ := CQ.1
        have HT : Hid (manyQ (([((dm, .slice Ad dm.length cd) : Rq), (op, .slice Ao op.length co)]).take (i + 1)) = wideB q.1) := Lib.hid (by have h9 := HM.out; unfold manyQ at h9 ⊢; rw [List.take_add_one, hq, List.any_append, h9]; simp)
        have hcell := (show HO w wr ([] ++ rowO w.heap.size 23 1 (.slice (some ⟨w.heap.size + 1, 0, none⟩) 2 2) 2 _ :: []) from J.out).at
        have c9i := World.ownsRow.cellAt hcell i (by omega)
        rw [List.getElem?_map, hq, Option.map_some, hvq] at c9i
        have c9l := (World.ownsRow.lt hcell _ rfl).2
        have CN := fun (W : World) (hb : Below w.heap.size w W) => CQ.2 W hb
        rw [hvq] at CN
        clear hcell hq CQ hvq
        go_wp2_with fail
        refine (CN _ J.out.below).out.mono ?_
        rintro e w2 ⟨t9, rfl, ht9, hb⟩
        obtain ⟨At, ct, ht, -, -⟩ := (own_shape ht9)
        subst ht
        replace J := Lib.hid (J.out.step hb)
        clear hb ht9 CN c9i c9l
        cases ew : wideB q.1 with
        | true =>
          simp only [wideB, decide_eq_true_eq] at ew
          simp only [if_neg (show ¬ (canS q.1).length ≤ 256 by omega)]
          have HW : Hid (r = 5) := Lib.hid (HALL.out (i + 1) (by rw [HT.out]; simp only [wideB, decide_eq_true_eq]; omega))
          clear HT
          go_wp2_with fail
          go_ret
          exact ⟨by rw [HW.out]; rfl, J.out.below⟩
        | false =>
          simp only [wideB, decide_eq_false_iff_not] at ew
          simp only [if_pos (show (canS q.1).length ≤ 256 by omega)]
          have HT2 : Hid (wideB q.1 = false) := Lib.hid (by simp only [wideB, decide_eq_false_iff_not]; omega)
          clear ew
          go_wp2_with fail
          go_roundw
          case rel => exact ⟨i + 1, by omega, by go_num, Lib.hid (by rw [HT.out, HT2.out]), J⟩
          case measure =>
            unfold leftN
            simp [RowKit.intOf]
            omega
      · obtain rfl : i = 2 := by omega
        have HW : Hid (r = 0) := Lib.hid (HNO.out HM.out)
        go_wp2_with fail
        go_ret
        exact ⟨by rw [HW.out]; rfl, J.out.below⟩
  | true =>
    obtain ⟨r, hr⟩ : ∃ r : Int, (if manyB (⟨set, bf, sc, tr, dm, op, true, ip, dx, dy, cb⟩ : St) = true then 5 else 0) = r := ⟨_, rfl⟩
    rw [hr]
    have HALL : Hid (∀ i, manyQ (([((dm, .slice Ad dm.length cd) : Rq), (op, .slice Ao op.length co), (ip, .slice Ai ip.length ci)]).take i) = true → r = 5) := Lib.hid (fun i h => by
      rw [← hr, if_pos (manyQ_take h |> fun h => by simpa [manyQ, manyB, Bool.or_assoc] using h)])
    have HNO : Hid (manyQ (([((dm, .slice Ad dm.length cd) : Rq), (op, .slice Ao op.length co), (ip, .slice Ai ip.length ci)]).take 3) = false → r = 0) := Lib.hid (fun h => by
      rw [← hr, if_neg (by simpa [manyQ, manyB, Bool.or_assoc] using h)])
    clear hr
    have HQ : ∀ q ∈ [((dm, .slice Ad dm.length cd) : Rq), (op, .slice Ao op.length co), (ip, .slice Ai ip.length ci)], (∃ A n c, q.2 = .slice A n c) ∧ ∀ W, Below w.heap.size w W → Hid (Calls Tryz.prog 61 #[q.2] W fun e w' => ∃ t, e = .returned (.tuple #[t, .int .i64 (if (canS q.1).length ≤ 256 then 0 else 5)]) ∧ Rgn.OwnR w' W.heap.size t (if (canS q.1).length ≤ 256 then canS q.1 else []) ∧ Below W.heap.size W w') := by
      intro q hq
      simp only [List.mem_cons, List.not_mem_nil, or_false] at hq
      rcases hq with rfl | rfl | rfl
      · exact ⟨⟨_, _, _, rfl⟩, fun W hb => (CN W hb).1⟩
      · exact ⟨⟨_, _, _, rfl⟩, fun W hb => (CN W hb).2.1⟩
      · exact ⟨⟨_, _, _, rfl⟩, fun W hb => (CN W hb).2.2⟩
    clear CN
    have J := Lib.hid (J0.out.rowB ((Below.refl _ _).alloc (Nat.le_refl _) _) HR1.out (fun k hk => by injection hk with hk; exact Nat.le_of_eq hk))
    clear J0 HR1
    simp only [World.size_alloc] at J
    have SN := Lib.hid (sn_onec ((w.alloc (.cells (stC (⟨set, bf, sc, tr, dm, op, true, ip, dx, dy, cb⟩ : St) (.slice A L.length c) (.slice Ad dm.length cd) (.slice Ao op.length co) (.slice Ai ip.length ci) (.slice Ac cb.length cc)).toArray 28)).alloc (.cells #[.slice Ad dm.length cd, .slice Ao op.length co] 23)) (.slice Ai ip.length ci) 23)
    simp only [World.size_alloc] at SN
    go_enter Tryz.func40, Tryz.ntmps40
    go_wp2_with (at_builtin; (refine wpList_appO rfl rowSl _ _ rfl (base := w.heap.size) (n := 2) (k := 1) rfl (show HO w _ ([] ++ rowO w.heap.size 23 1 _ 2 _ :: _) from (J.out.made _)).at rfl SN.out (by intro u hu; simp only [List.mem_singleton] at hu; subst hu; rfl) (by omega) (J.out.made _).below.size ?_); intro v5 w5 ho5 hg5 hw5; simp only [Nat.reduceAdd] at ho5; obtain ⟨A9, c9, hv5, hc1, hc2⟩ := own_shape ho5; subst hv5; simp only [maxLen] at hc2; replace J := Lib.hid (show HO w _ [rowO w.heap.size 23 1 _ 3 [.slice Ad dm.length cd, .slice Ao op.length co, .slice Ai ip.length ci]] from ((show HO w _ ([] ++ rowO w.heap.size 23 1 _ 2 _ :: _) from (J.out.made _)).grow ho5 hg5 hw5).sub (.cons_cons _ (.cons _ (List.Sublist.refl _)))); clear ho5 hg5 hw5)
    go_loopw [22] (fun s22 wr => ∃ (i : Nat), i ≤ 3 ∧ s22 = .int .i64 (i : Int) ∧ Hid (manyQ ([((dm, .slice Ad dm.length cd) : Rq), (op, .slice Ao op.length co), (ip, .slice Ai ip.length ci)].take i) = false) ∧ Hid (HO w wr [rowO w.heap.size 23 1 (.slice A9 3 c9) 3 ([((dm, .slice Ad dm.length cd) : Rq), (op, .slice Ao op.length co), (ip, .slice Ai ip.length ci)].map Prod.snd)])) (fun s22 _ => leftN 3 s22)
    case atStart => exact ⟨0, by omega, rfl, Lib.hid rfl, J⟩
    case round =>
      clear J
      obtain ⟨i, hin, rfl, HM, J⟩ := hrel
      by_cases hlt : i < 3
      · have q0 : (0 : Int) ≤ i := by omega
        have q1 : (i : Int) < 3 := by omega
        obtain ⟨q, hq⟩ : ∃ q, ([((dm, .slice Ad dm.length cd) : Rq), (op, .slice Ao op.length co), (ip, .slice Ai ip.length ci)])[i]? = some q := ⟨_, List.getElem?_eq_getElem (by simpa using hlt)⟩
        have CQ := HQ q (List.mem_of_getElem? hq)
        obtain ⟨Aq, nq, cq, hvq⟩ := CQ.1
        have HT : Hid (manyQ (([((dm, .slice Ad dm.length cd) : Rq), (op, .slice Ao op.length co), (ip, .slice Ai ip.length ci)]).take (i + 1)) = wideB q.1) := Lib.hid (by have h9 := HM.out; unfold manyQ at h9 ⊢; rw [List.take_add_one, hq, List.any_append, h9]; simp)
        have hcell := (show HO w wr ([] ++ rowO w.heap.size 23 1 (.slice A9 3 c9) 3 _ :: []) from J.out).at
        obtain ⟨g9, hg9⟩ : ∃ g9, A9 = some ⟨g9, 0, none⟩ := by
          rcases hcell.2 with ⟨e, _⟩ | ⟨g, cap, cur, e, _⟩
          · injection e with _ e2 _
            omega
          · injection e with e1 _ _
            exact ⟨g, e1⟩
        subst hg9
        have c9i := World.ownsRow.cellAt hcell i (by omega)
        rw [List.getElem?_map, hq, Option.map_some, hvq] at c9i
        have c9l := (World.ownsRow.lt hcell _ rfl).2
        have CN := fun (W : World) (hb : Below w.heap.size w W) => CQ.2 W hb
        rw [hvq] at CN
        clear hcell hq CQ hvq
        go_wp2_with fail
        refine (CN _ J.out.below).out.mono ?_
        rintro e w2 ⟨t9, rfl, ht9, hb⟩
        obtain ⟨At, ct, ht, -, -⟩ := (own_shape ht9)
        subst ht
        replace J := Lib.hid (J.out.step hb)
        clear hb ht9 CN c9i c9l
        cases ew : wideB q.1 with
        | true =>
          simp only [wideB, decide_eq_true_eq] at ew
          simp only [if_neg (show ¬ (canS q.1).length ≤ 256 by omega)]
          have HW : Hid (r = 5) := Lib.hid (HALL.out (i + 1) (by rw [HT.out]; simp only [wideB, decide_eq_true_eq]; omega))
          clear HT
          go_wp2_with fail
          go_ret
          exact ⟨by rw [HW.out]; rfl, J.out.below⟩
        | false =>
          simp only [wideB, decide_eq_false_iff_not] at ew
          simp only [if_pos (show (canS q.1).length ≤ 256 by omega)]
          have HT2 : Hid (wideB q.1 = false) := Lib.hid (by simp only [wideB, decide_eq_false_iff_not]; omega)
          clear ew
          go_wp2_with fail
          go_roundw
          case rel => exact ⟨i + 1, by omega, by go_num, Lib.hid (by rw [HT.out, HT2.out]), J⟩
          case measure =>
            unfold leftN
            simp [RowKit.intOf]
            omega
      · obtain rfl : i = 3 := by omega
        have HW : Hid (r = 0) := Lib.hid (HNO.out HM.out)
        go_wp2_with fail
        go_ret
        exact ⟨by rw [HW.out]; rfl, J.out.below⟩

theorem one_list1 {α : Type} : ∀ {l : List α}, l.length ≤ 1 → l = [] ∨ ∃ p, l = [p]
  | [], _ => .inl rfl
  | [p], _ => .inr ⟨p, rfl⟩
  | _ :: _ :: _, h => absurd h (by simp)

set_option maxRecDepth 100000 in
set_option maxHeartbeats 16000000 in
theorem chk_any (G : RG) {w : World} {s : St} {L : List Bv} {vb vd vo vi vc : Value} (h : StAt w s L vb vd vo vi vc) (hf : Few s) :
    Calls Tryz.prog 12 #[stV s vb vd vo vi vc] w fun e w' => e = .returned (.int .i64 (chkS s)) ∧ Below w.heap.size w w' := by
  have T1 := fun (W : World) => Lib.hid (Trf.validt_any s.tr W)
  have S := fun (W : World) (_ : Below w.heap.size w W) => Lib.hid (vdest_any s.dx s.dy W)
  have M := fun (W : World) (hb : Below w.heap.size w W) => Lib.hid (chkreg_any G (h.below hb) hf)
  have HB := Lib.hid h.bf
  have HPX := Lib.hid h.px
  have HEQ := Lib.hid h.eq
  obtain ⟨A, c, rfl, h1, h2⟩ := h.bf.shape
  obtain ⟨Ad, cd, rfl, hd1, hd2⟩ := h.dm.shape
  obtain ⟨Ao, co, rfl, ho1, ho2⟩ := h.op.shape
  obtain ⟨Ai, ci, rfl, hi1, hi2⟩ := h.ip.shape
  obtain ⟨Ac, cc, rfl, hc1, hc2⟩ := h.cb.shape
  simp only [maxLen] at h2 hd2 ho2 hi2 hc2
  have hlen := h.len
  obtain ⟨set, bf, sc, tr, dm, op, is, ip, dx, dy, cb⟩ := s
  dsimp only at T1 S M HEQ hlen hd1 ho1 hi1 hc1 hd2 ho2 hi2 hc2 ⊢
  have J := Lib.hid ((HO.nil w).alloc (stC ⟨set, bf, sc, tr, dm, op, is, ip, dx, dy, cb⟩ (.slice A L.length c) (.slice Ad dm.length cd) (.slice Ao op.length co) (.slice Ai ip.length ci) (.slice Ac cb.length cc)) 28)
  clear h hf
  generalize dm.length = nd at *
  generalize op.length = no at *
  generalize ip.length = ni at *
  generalize cb.length = nc at *
  by_cases a1 : 1 ≤ sc
  · by_cases a2 : sc ≤ 4
    · cases a3 : Trf.vT tr with
      | false =>
        rw [a3] at T1
        have ec : chkS ⟨set, bf, sc, tr, dm, op, is, ip, dx, dy, cb⟩ = 2 := by simp [chkS, argB, a3]
        rw [ec]
        clear ec
        go_enter Tryz.func12, Tryz.ntmps12
        go_wp2_with fail
        refine (T1 _).out.mono ?_
        rintro e w1 ⟨rfl, rfl⟩
        go_wp2_with fail
        go_ret
        exact ⟨rfl, J.out.below⟩
      | true =>
        rw [a3] at T1
        by_cases a4 : 1 < L.length
        · have a5 : ¬ bf.length ≤ 1 := by omega
          generalize L.length = n at *
          have ec : chkS ⟨set, bf, sc, tr, dm, op, is, ip, dx, dy, cb⟩ = 2 := by simp [chkS, argB, a5]
          rw [ec]
          clear ec
          go_enter Tryz.func12, Tryz.ntmps12
          go_wp2_with fail
          refine (T1 _).out.mono ?_
          rintro e w1 ⟨rfl, rfl⟩
          go_wp2_with fail
          go_ret
          exact ⟨rfl, J.out.below⟩
        · rcases one_list1 (l := L) (by omega) with rfl | ⟨⟨x, v⟩, rfl⟩
          · have a6 : bf = [] := HEQ.out.symm
            subst a6
            simp only [List.length_nil] at M J h1 ⊢
            clear HB HPX HEQ hlen a4
            cases e3 : sidB dx dy with
            | false =>
              rw [e3] at S
              have ec : chkS ⟨set, [], sc, tr, dm, op, is, ip, dx, dy, cb⟩ = 6 := by simp [chkS, argB, bufB, a1, a2, a3, e3]
              rw [ec]
              clear ec
              go_enter Tryz.func12, Tryz.ntmps12
              go_wp2_with fail
              refine (T1 _).out.mono ?_
              rintro e w1 ⟨rfl, rfl⟩
              go_upto_region 3 with fail
              obtain ⟨x0, x1, x2, x3, x4, x5, x6, x7, x8, x9, x10, xf, xl⟩ := (show HO w _ ([] ++ boxO w.heap.size [_, _, _, _, _, _, _, _, _, _, _] :: []) from J.out).c11
              go_quiet (fail)
              replace J := Lib.hid (J.out.drews nq)
              go_wp2_with fail
              refine (S _ J.out.below).out.mono ?_
              rintro e w3 ⟨rfl, hb⟩
              replace J := Lib.hid (J.out.step hb)
              clear hb x0 x1 x2 x3 x4 x5 x6 x7 x8 x9 x10 xf xl
              obtain ⟨x0, x1, x2, x3, x4, x5, x6, x7, x8, x9, x10, xf, xl⟩ := (show HO w w3 ([] ++ boxO w.heap.size [_, _, _, _, _, _, _, _, _, _, _] :: []) from J.out).c11
              go_wp2_with fail
              go_ret
              exact ⟨rfl, J.out.below⟩
            | true =>
              rw [e3] at S
              cases e4 : manyB ⟨set, [], sc, tr, dm, op, is, ip, dx, dy, cb⟩ with
              | true =>
                rw [e4] at M
                simp only [if_true] at M
                have ec : chkS ⟨set, [], sc, tr, dm, op, is, ip, dx, dy, cb⟩ = 5 := by simp [chkS, argB, bufB, a1, a2, a3, e3, e4]
                rw [ec]
                clear ec
                go_enter Tryz.func12, Tryz.ntmps12
                go_wp2_with fail
                refine (T1 _).out.mono ?_
                rintro e w1 ⟨rfl, rfl⟩
                go_upto_region 3 with fail
                obtain ⟨x0, x1, x2, x3, x4, x5, x6, x7, x8, x9, x10, xf, xl⟩ := (show HO w _ ([] ++ boxO w.heap.size [_, _, _, _, _, _, _, _, _, _, _] :: []) from J.out).c11
                go_quiet (fail)
                replace J := Lib.hid (J.out.drews nq)
                go_wp2_with fail
                refine (S _ J.out.below).out.mono ?_
                rintro e w3 ⟨rfl, hb⟩
                replace J := Lib.hid (J.out.step hb)
                clear hb x0 x1 x2 x3 x4 x5 x6 x7 x8 x9 x10 xf xl
                obtain ⟨x0, x1, x2, x3, x4, x5, x6, x7, x8, x9, x10, xf, xl⟩ := (show HO w w3 ([] ++ boxO w.heap.size [_, _, _, _, _, _, _, _, _, _, _] :: []) from J.out).c11
                go_wp2_with fail
                refine (M _ J.out.below).out.mono ?_
                rintro e w4 ⟨rfl, hb⟩
                replace J := Lib.hid (J.out.step hb)
                clear hb x0 x1 x2 x3 x4 x5 x6 x7 x8 x9 x10 xf xl
                go_wp2_with fail
                go_ret
                exact ⟨rfl, J.out.below⟩
              | false =>
                rw [e4] at M
                simp only [Bool.false_eq_true, if_false] at M
                have ec : chkS ⟨set, [], sc, tr, dm, op, is, ip, dx, dy, cb⟩ = 0 := by simp [chkS, argB, bufB, a1, a2, a3, e3, e4]
                rw [ec]
                clear ec
                go_enter Tryz.func12, Tryz.ntmps12
                go_wp2_with fail
                refine (T1 _).out.mono ?_
                rintro e w1 ⟨rfl, rfl⟩
                go_upto_region 3 with fail
                obtain ⟨x0, x1, x2, x3, x4, x5, x6, x7, x8, x9, x10, xf, xl⟩ := (show HO w _ ([] ++ boxO w.heap.size [_, _, _, _, _, _, _, _, _, _, _] :: []) from J.out).c11
                go_quiet (fail)
                replace J := Lib.hid (J.out.drews nq)
                go_wp2_with fail
                refine (S _ J.out.below).out.mono ?_
                rintro e w3 ⟨rfl, hb⟩
                replace J := Lib.hid (J.out.step hb)
                clear hb x0 x1 x2 x3 x4 x5 x6 x7 x8 x9 x10 xf xl
                obtain ⟨x0, x1, x2, x3, x4, x5, x6, x7, x8, x9, x10, xf, xl⟩ := (show HO w w3 ([] ++ boxO w.heap.size [_, _, _, _, _, _, _, _, _, _, _] :: []) from J.out).c11
                go_wp2_with fail
                refine (M _ J.out.below).out.mono ?_
                rintro e w4 ⟨rfl, hb⟩
                replace J := Lib.hid (J.out.step hb)
                clear hb x0 x1 x2 x3 x4 x5 x6 x7 x8 x9 x10 xf xl
                go_wp2_with fail
                go_ret
                exact ⟨rfl, J.out.below⟩
          · have a6 : bf = [x] := HEQ.out.symm
            have hpx := HPX.out (x, v) (by simp)
            obtain ⟨b0, off, rfl, hb0, hc0⟩ := bf_cells HB.out (by simp) (Below.refl _ _)
            have HY0 := hc0 0 (x, v) rfl
            simp only [Nat.zero_mul, Nat.add_zero] at HY0
            simp only [List.length_cons, List.length_nil, Nat.zero_add] at M J h1 ⊢
            obtain ⟨xa, xb, xl'⟩ := x
            obtain ⟨Ap, cp, hvp, hq1, hq2⟩ := hpx.shape
            dsimp only at hvp hpx HY0 hq1
            subst hvp
            subst a6
            have V := fun (W : World) (hb : Below w.heap.size w W) => Lib.hid (divi_any (xa := xa) (xb := xb) (hpx.below hb) a1 a2)
            generalize hn : xl'.length = np at *
            have HY : ∀ W : World, Below w.heap.size w W → W.cell? ⟨b0, off, none⟩ = some (.int .i64 xa) ∧ W.cell? ⟨b0, off + 1, none⟩ = some (.int .i64 xb) ∧ W.cell? ⟨b0, off + 2, none⟩ = some (.slice Ap np cp) := fun W hw => ⟨(hw.cell hb0).trans HY0.1, (hw.cell hb0).trans HY0.2.1, (hw.cell hb0).trans HY0.2.2⟩
            clear hc0 hpx HB HPX HEQ HY0 hlen a4 hn
            cases v1 : bfB ⟨xa, xb, xl'⟩ sc with
            | false =>
              rw [v1] at V
              have ec : chkS ⟨set, [⟨xa, xb, xl'⟩], sc, tr, dm, op, is, ip, dx, dy, cb⟩ = 15 := by simp [chkS, argB, bufB, a1, a2, a3, v1]
              rw [ec]
              clear ec
              go_enter Tryz.func12, Tryz.ntmps12
              go_wp2_with fail
              refine (T1 _).out.mono ?_
              rintro e w1 ⟨rfl, rfl⟩
              go_upto_region 3 with fail
              replace J := Lib.hid J.out.drew
              obtain ⟨x0, x1, x2, x3, x4, x5, x6, x7, x8, x9, x10, xf, xl⟩ := (show HO w _ ([] ++ boxO w.heap.size [_, _, _, _, _, _, _, _, _, _, _] :: []) from J.out).c11
              have sk := And.intro x1 (And.intro x2 (HY _ J.out.below))
              go_region_held3 (fun W => W.cell? ⟨w.heap.size, 1, none⟩ = some (.slice (some ⟨b0, off, none⟩) 1 c) ∧ W.cell? ⟨w.heap.size, 2, none⟩ = some (.int .i64 sc) ∧ W.cell? ⟨b0, off, none⟩ = some (.int .i64 xa) ∧ W.cell? ⟨b0, off + 1, none⟩ = some (.int .i64 xb) ∧ W.cell? ⟨b0, off + 2, none⟩ = some (.slice Ap np cp)) (first | exact sk | go_keep) (first | (go_at_call 38; (with_reducible refine (V _ J.out.below).out.mono ?_); rintro e w2 ⟨rfl, hb⟩; replace J := Lib.hid (J.out.step hb); clear hb sk x0 x1 x2 x3 x4 x5 x6 x7 x8 x9 x10 xf xl; have sk := (show (_ ∧ _ ∧ _ ∧ _ ∧ _) from And.intro ((show HO w _ ([] ++ boxO w.heap.size [_, _, _, _, _, _, _, _, _, _, _] :: []) from J.out).c 1 rfl) (And.intro ((show HO w _ ([] ++ boxO w.heap.size [_, _, _, _, _, _, _, _, _, _, _] :: []) from J.out).c 2 rfl) (HY _ J.out.below)))) | fail)
              clear sk
              obtain ⟨x0, x1, x2, x3, x4, x5, x6, x7, x8, x9, x10, xf, xl⟩ := (show HO w _ ([] ++ boxO w.heap.size [_, _, _, _, _, _, _, _, _, _, _] :: []) from J.out).c11
              go_wp2_with fail
              go_ret
              exact ⟨rfl, J.out.below⟩
            | true =>
              rw [v1] at V
              cases e3 : sidB dx dy with
              | false =>
                rw [e3] at S
                have ec : chkS ⟨set, [⟨xa, xb, xl'⟩], sc, tr, dm, op, is, ip, dx, dy, cb⟩ = 6 := by simp [chkS, argB, bufB, a1, a2, a3, v1, e3]
                rw [ec]
                clear ec
                go_enter Tryz.func12, Tryz.ntmps12
                go_wp2_with fail
                refine (T1 _).out.mono ?_
                rintro e w1 ⟨rfl, rfl⟩
                go_upto_region 3 with fail
                replace J := Lib.hid J.out.drew
                obtain ⟨x0, x1, x2, x3, x4, x5, x6, x7, x8, x9, x10, xf, xl⟩ := (show HO w _ ([] ++ boxO w.heap.size [_, _, _, _, _, _, _, _, _, _, _] :: []) from J.out).c11
                have sk := And.intro x1 (And.intro x2 (HY _ J.out.below))
                go_region_held3 (fun W => W.cell? ⟨w.heap.size, 1, none⟩ = some (.slice (some ⟨b0, off, none⟩) 1 c) ∧ W.cell? ⟨w.heap.size, 2, none⟩ = some (.int .i64 sc) ∧ W.cell? ⟨b0, off, none⟩ = some (.int .i64 xa) ∧ W.cell? ⟨b0, off + 1, none⟩ = some (.int .i64 xb) ∧ W.cell? ⟨b0, off + 2, none⟩ = some (.slice Ap np cp)) (first | exact sk | go_keep) (first | (go_at_call 38; (with_reducible refine (V _ J.out.below).out.mono ?_); rintro e w2 ⟨rfl, hb⟩; replace J := Lib.hid (J.out.step hb); clear hb sk x0 x1 x2 x3 x4 x5 x6 x7 x8 x9 x10 xf xl; have sk := (show (_ ∧ _ ∧ _ ∧ _ ∧ _) from And.intro ((show HO w _ ([] ++ boxO w.heap.size [_, _, _, _, _, _, _, _, _, _, _] :: []) from J.out).c 1 rfl) (And.intro ((show HO w _ ([] ++ boxO w.heap.size [_, _, _, _, _, _, _, _, _, _, _] :: []) from J.out).c 2 rfl) (HY _ J.out.below)))) | fail)
                clear sk
                obtain ⟨x0, x1, x2, x3, x4, x5, x6, x7, x8, x9, x10, xf, xl⟩ := (show HO w _ ([] ++ boxO w.heap.size [_, _, _, _, _, _, _, _, _, _, _] :: []) from J.out).c11
                go_wp2_with fail
                refine (S _ J.out.below).out.mono ?_
                rintro e w3 ⟨rfl, hb⟩
                replace J := Lib.hid (J.out.step hb)
                clear hb x0 x1 x2 x3 x4 x5 x6 x7 x8 x9 x10 xf xl
                obtain ⟨x0, x1, x2, x3, x4, x5, x6, x7, x8, x9, x10, xf, xl⟩ := (show HO w w3 ([] ++ boxO w.heap.size [_, _, _, _, _, _, _, _, _, _, _] :: []) from J.out).c11
                go_wp2_with fail
                go_ret
                exact ⟨rfl, J.out.below⟩
              | true =>
                rw [e3] at S
                cases e4 : manyB ⟨set, [⟨xa, xb, xl'⟩], sc, tr, dm, op, is, ip, dx, dy, cb⟩ with
                | true =>
                  rw [e4] at M
                  simp only [if_true] at M
                  have ec : chkS ⟨set, [⟨xa, xb, xl'⟩], sc, tr, dm, op, is, ip, dx, dy, cb⟩ = 5 := by simp [chkS, argB, bufB, a1, a2, a3, v1, e3, e4]
                  rw [ec]
                  clear ec
                  go_enter Tryz.func12, Tryz.ntmps12
                  go_wp2_with fail
                  refine (T1 _).out.mono ?_
                  rintro e w1 ⟨rfl, rfl⟩
                  go_upto_region 3 with fail
                  replace J := Lib.hid J.out.drew
                  obtain ⟨x0, x1, x2, x3, x4, x5, x6, x7, x8, x9, x10, xf, xl⟩ := (show HO w _ ([] ++ boxO w.heap.size [_, _, _, _, _, _, _, _, _, _, _] :: []) from J.out).c11
                  have sk := And.intro x1 (And.intro x2 (HY _ J.out.below))
                  go_region_held3 (fun W => W.cell? ⟨w.heap.size, 1, none⟩ = some (.slice (some ⟨b0, off, none⟩) 1 c) ∧ W.cell? ⟨w.heap.size, 2, none⟩ = some (.int .i64 sc) ∧ W.cell? ⟨b0, off, none⟩ = some (.int .i64 xa) ∧ W.cell? ⟨b0, off + 1, none⟩ = some (.int .i64 xb) ∧ W.cell? ⟨b0, off + 2, none⟩ = some (.slice Ap np cp)) (first | exact sk | go_keep) (first | (go_at_call 38; (with_reducible refine (V _ J.out.below).out.mono ?_); rintro e w2 ⟨rfl, hb⟩; replace J := Lib.hid (J.out.step hb); clear hb sk x0 x1 x2 x3 x4 x5 x6 x7 x8 x9 x10 xf xl; have sk := (show (_ ∧ _ ∧ _ ∧ _ ∧ _) from And.intro ((show HO w _ ([] ++ boxO w.heap.size [_, _, _, _, _, _, _, _, _, _, _] :: []) from J.out).c 1 rfl) (And.intro ((show HO w _ ([] ++ boxO w.heap.size [_, _, _, _, _, _, _, _, _, _, _] :: []) from J.out).c 2 rfl) (HY _ J.out.below)))) | fail)
                  clear sk
                  obtain ⟨x0, x1, x2, x3, x4, x5, x6, x7, x8, x9, x10, xf, xl⟩ := (show HO w _ ([] ++ boxO w.heap.size [_, _, _, _, _, _, _, _, _, _, _] :: []) from J.out).c11
                  go_wp2_with fail
                  refine (S _ J.out.below).out.mono ?_
                  rintro e w3 ⟨rfl, hb⟩
                  replace J := Lib.hid (J.out.step hb)
                  clear hb x0 x1 x2 x3 x4 x5 x6 x7 x8 x9 x10 xf xl
                  obtain ⟨x0, x1, x2, x3, x4, x5, x6, x7, x8, x9, x10, xf, xl⟩ := (show HO w w3 ([] ++ boxO w.heap.size [_, _, _, _, _, _, _, _, _, _, _] :: []) from J.out).c11
                  go_wp2_with fail
                  refine (M _ J.out.below).out.mono ?_
                  rintro e w4 ⟨rfl, hb⟩
                  replace J := Lib.hid (J.out.step hb)
                  clear hb x0 x1 x2 x3 x4 x5 x6 x7 x8 x9 x10 xf xl
                  go_wp2_with fail
                  go_ret
                  exact ⟨rfl, J.out.below⟩
                | false =>
                  rw [e4] at M
                  simp only [Bool.false_eq_true, if_false] at M
                  have ec : chkS ⟨set, [⟨xa, xb, xl'⟩], sc, tr, dm, op, is, ip, dx, dy, cb⟩ = 0 := by simp [chkS, argB, bufB, a1, a2, a3, v1, e3, e4]
                  rw [ec]
                  clear ec
                  go_enter Tryz.func12, Tryz.ntmps12
                  go_wp2_with fail
                  refine (T1 _).out.mono ?_
                  rintro e w1 ⟨rfl, rfl⟩
                  go_upto_region 3 with fail
                  replace J := Lib.hid J.out.drew
                  obtain ⟨x0, x1, x2, x3, x4, x5, x6, x7, x8, x9, x10, xf, xl⟩ := (show HO w _ ([] ++ boxO w.heap.size [_, _, _, _, _, _, _, _, _, _, _] :: []) from J.out).c11
                  have sk := And.intro x1 (And.intro x2 (HY _ J.out.below))
                  go_region_held3 (fun W => W.cell? ⟨w.heap.size, 1, none⟩ = some (.slice (some ⟨b0, off, none⟩) 1 c) ∧ W.cell? ⟨w.heap.size, 2, none⟩ = some (.int .i64 sc) ∧ W.cell? ⟨b0, off, none⟩ = some (.int .i64 xa) ∧ W.cell? ⟨b0, off + 1, none⟩ = some (.int .i64 xb) ∧ W.cell? ⟨b0, off + 2, none⟩ = some (.slice Ap np cp)) (first | exact sk | go_keep) (first | (go_at_call 38; (with_reducible refine (V _ J.out.below).out.mono ?_); rintro e w2 ⟨rfl, hb⟩; replace J := Lib.hid (J.out.step hb); clear hb sk x0 x1 x2 x3 x4 x5 x6 x7 x8 x9 x10 xf xl; have sk := (show (_ ∧ _ ∧ _ ∧ _ ∧ _) from And.intro ((show HO w _ ([] ++ boxO w.heap.size [_, _, _, _, _, _, _, _, _, _, _] :: []) from J.out).c 1 rfl) (And.intro ((show HO w _ ([] ++ boxO w.heap.size [_, _, _, _, _, _, _, _, _, _, _] :: []) from J.out).c 2 rfl) (HY _ J.out.below)))) | fail)
                  clear sk
                  obtain ⟨x0, x1, x2, x3, x4, x5, x6, x7, x8, x9, x10, xf, xl⟩ := (show HO w _ ([] ++ boxO w.heap.size [_, _, _, _, _, _, _, _, _, _, _] :: []) from J.out).c11
                  go_wp2_with fail
                  refine (S _ J.out.below).out.mono ?_
                  rintro e w3 ⟨rfl, hb⟩
                  replace J := Lib.hid (J.out.step hb)
                  clear hb x0 x1 x2 x3 x4 x5 x6 x7 x8 x9 x10 xf xl
                  obtain ⟨x0, x1, x2, x3, x4, x5, x6, x7, x8, x9, x10, xf, xl⟩ := (show HO w w3 ([] ++ boxO w.heap.size [_, _, _, _, _, _, _, _, _, _, _] :: []) from J.out).c11
                  go_wp2_with fail
                  refine (M _ J.out.below).out.mono ?_
                  rintro e w4 ⟨rfl, hb⟩
                  replace J := Lib.hid (J.out.step hb)
                  clear hb x0 x1 x2 x3 x4 x5 x6 x7 x8 x9 x10 xf xl
                  go_wp2_with fail
                  go_ret
                  exact ⟨rfl, J.out.below⟩
    · skip
      have ec : chkS ⟨set, bf, sc, tr, dm, op, is, ip, dx, dy, cb⟩ = 2 := by simp [chkS, argB, a2]
      rw [ec]
      clear ec
      go_enter Tryz.func12, Tryz.ntmps12
      go_wp2_with fail
      go_ret
      exact ⟨rfl, J.out.below⟩
  · skip
    have ec : chkS ⟨set, bf, sc, tr, dm, op, is, ip, dx, dy, cb⟩ = 2 := by simp [chkS, argB, a1]
    rw [ec]
    clear ec
    go_enter Tryz.func12, Tryz.ntmps12
    go_wp2_with fail
    go_ret
    exact ⟨rfl, J.out.below⟩

end Go.Proofs.YthedglfocjljjaaGreatDoor
