/-
  RectPoints: a point is in the intersection exactly if it is in both rectangles, in exactly one rectangle of the difference if it is in the first one alone, and in the union if it is in one of them: the law returns true and leaves its arguments as they were. No condition.
-/
import Derived.Test.YtalklenngalfjaaHold2
import Derived.Test.YtalklenngalfjaaCount
import Derived.Test.YtalklenngalfjaaHeld
namespace Go.Proofs.Ytalklenngalfjaa
open Go.ChangeShapes Go.WideShapes Go.ChangeAt Go.RowKit

set_option maxRecDepth 100000 in
set_option maxHeartbeats 16000000 in
theorem points_walk (a b : R) (x y : Int) (w : World) : Calls Try.prog 7 #[.agg #[.int .i64 a.x0, .int .i64 a.y0, .int .i64 a.x1, .int .i64 a.y1], .agg #[.int .i64 b.x0, .int .i64 b.y0, .int .i64 b.x1, .int .i64 b.y1], .agg #[.int .i64 x, .int .i64 y]] w (Says true w) := by
  have HH := Lib.hid ((((HeldL.new w).rect a rfl).rect b (k := w.heap.size + 1) (by simp)).point x y (k := w.heap.size + 1 + 1) (by simp))
  simp only [rectC, pointC, List.nil_append, List.cons_append] at HH
  have C1 := fun W => Lib.hid (contains_any a x y W)
  have C2 := fun W => Lib.hid (contains_any b x y W)
  go_enter Try.func7, Try.ntmps7
  have H2 := Lib.hid ((Held2.new w a b).step ((Below.refl _ _).alloc (Nat.le_refl _) (.cells #[.int .i64 x, .int .i64 y] 38)))
  go_wp2_with fail
  obtain ⟨a0, a1, a2, a3, b0, b1, b2, b3, p0, p1⟩ := id HH.out.cells
  change World.cell? _ _ = _ at p1
  go_quiet (fail)
  replace HH := Lib.hid (H2.out.step (below_drewN (Below.refl _ _) nq)).drew
  clear a0 a1 a2 a3 b0 b1 b2 b3 p0 p1 H2
  go_wp2_with fail
  have sk := HH.out.cells
  go_region_held3 (fun W => W.cell? ⟨w.heap.size, 0, none⟩ = some (.int .i64 a.x0) ∧ W.cell? ⟨w.heap.size, 1, none⟩ = some (.int .i64 a.y0) ∧ W.cell? ⟨w.heap.size, 2, none⟩ = some (.int .i64 a.x1) ∧ W.cell? ⟨w.heap.size, 3, none⟩ = some (.int .i64 a.y1) ∧ W.cell? ⟨w.heap.size + 1, 0, none⟩ = some (.int .i64 b.x0) ∧ W.cell? ⟨w.heap.size + 1, 1, none⟩ = some (.int .i64 b.y0) ∧ W.cell? ⟨w.heap.size + 1, 2, none⟩ = some (.int .i64 b.x1) ∧ W.cell? ⟨w.heap.size + 1, 3, none⟩ = some (.int .i64 b.y1))
    (first
      | exact sk
      | go_keep)
    (first
      | (go_at_call 19; (with_reducible refine ((C1 _).out).mono ?_); rintro e wq ⟨rfl, hbq⟩; replace HH := Lib.hid (HH.out.step hbq); have sk := HH.out.cells; clear hbq)
      | (go_at_call 19; (with_reducible refine ((C2 _).out).mono ?_); rintro e wq ⟨rfl, hbq⟩; replace HH := Lib.hid (HH.out.step hbq); have sk := HH.out.cells; clear hbq)
      | fail)
  all_goals
    obtain ⟨a0, a1, a2, a3, b0, b1, b2, b3⟩ := sk
    go_wp2_with fail
    refine (sub_any a b _).mono ?_
    rintro e wq ⟨v, rfl, ho, hbq⟩
    clear a0 a1 a2 a3 b0 b1 b2 b3
    replace HH : Hid (HeldS w wq w.heap.size a (w.heap.size + 1) b v (subR a b)) := Lib.hid ⟨(HH.out.step hbq).at1, (HH.out.step hbq).at2, ho.rs, (HH.out.step hbq).below⟩
    clear ho hbq
    obtain ⟨A, c, rfl, hlc, hcm⟩ := HH.out.list.shape
    have F4 := sub_four a b
    have FC := Lib.hid (cnt_sub a b x y)
    generalize subR a b = L at *
    obtain ⟨n, hn⟩ : ∃ n, L.length = n := ⟨_, rfl⟩
    rw [hn] at F4 hlc HH ⊢
    have HN := Lib.hid hn
    clear hn
    have f4 : (n : Int) ≤ 4 := by omega
    unfold maxLen at hcm
    go_wp2_with fail
    go_loopw [11, 13] (fun s11 s13 wr => ∃ j : Nat, j ≤ n ∧ s13 = .int .i64 (j : Int) ∧ s11 = .int .i64 (cnt x y (L.take j)) ∧ Hid (HeldS w wr w.heap.size a (w.heap.size + 1) b (.slice A n c) L)) (fun _ s13 _ => n - (intOf s13).toNat)
    case atStart => exact ⟨0, by omega, rfl, by simp [cnt], HH.out⟩
    case round =>
      clear HH
      obtain ⟨j, hj, rfl, rfl, HH⟩ := hrel
      by_cases hlt : j < n
      · obtain ⟨r, hx⟩ : ∃ x, L[j]? = some x := ⟨_, List.getElem?_eq_getElem (by rw [HN.out]; exact hlt)⟩
        obtain ⟨bb, off, c', hv, _, t0, t1, t2, t3⟩ := HH.out.list.at hx
        injection hv with e1 e2 e3
        subst e1
        clear e2 e3
        have hsn : cnt x y (L.take (j + 1)) = cnt x y (L.take j) + (if conB r x y = true then 1 else 0) := by
          rw [List.take_add_one, hx, cnt_append]
          simp [cnt]
        obtain ⟨h0, h1⟩ := cnt_nonneg x y (L.take j)
        have hlj : (L.take j).length ≤ 4 := by rw [List.length_take, HN.out]; omega
        have D19 := fun W => Lib.hid (contains_any r x y W)
        have q0 : (j : Int) < n := by omega
        have q1 : (0 : Int) ≤ j := by omega
        obtain ⟨sj, hsj⟩ : ∃ s, cnt x y (L.take j) = s := ⟨_, rfl⟩
        rw [hsj] at h0 h1 hsn ⊢
        have h2 : sj ≤ 4 := by omega
        clear hsj h1 hlj hx
        cases hc : conB r x y
        all_goals
          rw [hc] at D19 hsn
          have HSN := Lib.hid hsn
          clear hsn hc
          go_wp2_with fail
          refine (D19 _).out.mono ?_
          rintro e wq ⟨rfl, hbq⟩
          replace HH := Lib.hid (HH.out.step hbq)
          clear hbq t0 t1 t2 t3
          go_wp2_with fail
          go_roundw
          case rel => exact ⟨j + 1, by omega, by go_num, by rw [HSN.out]; simp, HH.out⟩
          case measure => simp [intOf]; omega
      · have q0 : (n : Int) ≤ (j : Int) := by omega
        have hfs : cnt x y (L.take j) = cnt x y L := by rw [List.take_of_length_le (by rw [HN.out]; omega)]
        obtain ⟨t, ht⟩ : ∃ t, cnt x y L = t := ⟨_, rfl⟩
        rw [hfs, ht]
        have HT := FC.out
        rw [ht] at HT
        have C3 := fun W => Lib.hid (uni_any a b W)
        have C4 := fun W => Lib.hid (contains_any (uniR a b) x y W)
        have C5 := fun W => Lib.hid (with_any a b W)
        have C6 := fun W => Lib.hid (int_any a b W)
        have C7 := fun W => Lib.hid (contains_any (intR a b) x y W)
        rw [con_int] at C7
        obtain ⟨q, hq⟩ : ∃ q, (conB a x y && conB b x y) = q := ⟨_, rfl⟩
        rw [hq] at C7
        have U := con_uni (a := a) (b := b) (x := x) (y := y)
        have V := con_with (a := a) (b := b) (x := x) (y := y)
        clear hfs C1 C2 ht FC
        generalize conB a x y = ia at *
        generalize conB b x y = ib at *
        generalize conB (uniR a b) x y = iu at *
        generalize withB a b = iw at *
        generalize uniR a b = u at *
        generalize intR a b = i at *
        obtain ⟨a0, a1, a2, a3, b0, b1, b2, b3⟩ := join4 HH.out.at1.four HH.out.at2.four
        have G : ∃ iu' : Bool, iu' = iu ∧ (ia = false ∧ ib = false ∨ iu = true) := ⟨iu, rfl, by cases ia <;> cases ib <;> first | exact .inl ⟨rfl, rfl⟩ | exact .inr (U (.inl rfl)) | exact .inr (U (.inr rfl))⟩
        obtain ⟨_, _, G⟩ := G
        have G2 : ¬ (ia = true ∧ ib = false ∧ iw = true) := fun h => by
          have := V h.2.2 h.1
          rw [h.2.1] at this
          cases this
        clear U V F4 hlc
        rcases (by cases ia <;> cases ib <;> cases iw <;> simp at G G2 ⊢ <;> simp [*] : (ia = false ∧ ib = false) ∨ (ia = false ∧ ib = true ∧ iu = true) ∨ (ia = true ∧ ib = false ∧ iu = true ∧ iw = false) ∨ (ia = true ∧ ib = true ∧ iu = true)) with ⟨rfl, rfl⟩ | ⟨rfl, rfl, rfl⟩ | ⟨rfl, rfl, rfl, rfl⟩ | ⟨rfl, rfl, rfl⟩
        all_goals
          clear G G2
          simp at HT hq
          subst HT
          subst hq
        all_goals (first | cases iw | skip)
        all_goals
          go_wp2_with (first
            | (go_at_call 26; (with_reducible refine ((C3 _).out).mono ?_); rintro e wq ⟨rfl, hbq⟩; replace HH := Lib.hid (HH.out.step hbq); clear hbq a0 a1 a2 a3 b0 b1 b2 b3; obtain ⟨a0, a1, a2, a3, b0, b1, b2, b3⟩ := join4 HH.out.at1.four HH.out.at2.four)
            | (go_at_call 19; (with_reducible refine ((C4 _).out).mono ?_); rintro e wq ⟨rfl, hbq⟩; replace HH := Lib.hid (HH.out.step hbq); clear hbq a0 a1 a2 a3 b0 b1 b2 b3; obtain ⟨a0, a1, a2, a3, b0, b1, b2, b3⟩ := join4 HH.out.at1.four HH.out.at2.four)
            | (go_at_call 22; (with_reducible refine ((C5 _).out).mono ?_); rintro e wq ⟨rfl, hbq⟩; replace HH := Lib.hid (HH.out.step hbq); clear hbq a0 a1 a2 a3 b0 b1 b2 b3; obtain ⟨a0, a1, a2, a3, b0, b1, b2, b3⟩ := join4 HH.out.at1.four HH.out.at2.four)
            | (go_at_call 24; (with_reducible refine ((C6 _).out).mono ?_); rintro e wq ⟨rfl, hbq⟩; replace HH := Lib.hid (HH.out.step hbq); clear hbq a0 a1 a2 a3 b0 b1 b2 b3; obtain ⟨a0, a1, a2, a3, b0, b1, b2, b3⟩ := join4 HH.out.at1.four HH.out.at2.four)
            | (go_at_call 19; (with_reducible refine ((C7 _).out).mono ?_); rintro e wq ⟨rfl, hbq⟩; replace HH := Lib.hid (HH.out.step hbq); clear hbq a0 a1 a2 a3 b0 b1 b2 b3; obtain ⟨a0, a1, a2, a3, b0, b1, b2, b3⟩ := join4 HH.out.at1.four HH.out.at2.four)
            | (go_at_call 21; (with_reducible refine (example_any _).mono ?_); rintro e wq ⟨rfl, hbq⟩; replace HH := Lib.hid (HH.out.step hbq); clear hbq a0 a1 a2 a3 b0 b1 b2 b3; obtain ⟨a0, a1, a2, a3, b0, b1, b2, b3⟩ := join4 HH.out.at1.four HH.out.at2.four)
            | fail)
          go_ret
          exact ⟨rfl, HH.out.below⟩

set_option maxRecDepth 100000 in
theorem points_lifted (os : Os) (started : os.Started) (H : Type) (enc : TypeId × Value → H) :
    ReturnsInHanded {} Try.checked os 7 .any (Rows.rectPointsSpec.pre6 enc Try.prog Try.f7 Rows.rectPointsRow.domain false) (Rows.rectPointsSpec.post enc Try.prog Try.f7 false true false false) := by
  refine returnsInHanded_of_change (C := Try.checked) own started (by kernel_rfl) Try.func7
    (ChangeSpec.witness6 (enc := enc) (C := Try.checked) false ⟨#[], #[.agg #[.int .i64 0, .int .i64 0, .int .i64 0, .int .i64 0], .agg #[.int .i64 0, .int .i64 0, .int .i64 0, .int .i64 0], .agg #[.int .i64 0, .int .i64 0]], []⟩ 8 (by kernel_rfl) (by kernel_rfl) (by kernel_rfl) (by kernel_rfl)) ?_
  intro W base args ds gs before hval0 hW _ _
  have hval : ∀ (j : Nat) t v, Try.f7.params[j]? = some t → args[j]? = some v → Value.okWide Try.prog W .any base t v := hval0
  have hW' := hW
  obtain ⟨p, q, hA0, hV, rfl, _, _⟩ := hW
  have hA : DataW.TrodAll enc Try.prog W 0 (fun _ => true) true Try.f7.params.toList args.toList ds p := hA0
  rw [Try.params7] at hA hval
  obtain ⟨v0, vs0, d0, ds0, p0, q0, hargs, rfl, rfl, h0, r0⟩ := trodAll_cons hA
  obtain ⟨v1, vs1, d1, ds1, p1, q1, rfl, rfl, rfl, h1, r1⟩ := trodAll_cons r0
  obtain ⟨v2, vs2, d2, ds2, p2, q2, rfl, rfl, rfl, h2, r2⟩ := trodAll_cons r1
  obtain ⟨rfl, rfl, rfl⟩ := trodAll_nil r2
  obtain rfl : args = #[v0, v1, v2] := by cases args; simp_all
  obtain ⟨rfl, rfl⟩ := trodVars_none hV
  clear hA0 hval0
  simp only [List.append_nil] at hW'
  have hlt0 : ∀ x ∈ p0, x.block < W.heap.size := fun x hx => hW'.lt x (by simp [hx])
  have k0 := h0
  have hlt1 : ∀ x ∈ p1, x.block < W.heap.size := fun x hx => hW'.lt x (by simp [hx])
  have k1 := h1
  have hlt2 : ∀ x ∈ p2, x.block < W.heap.size := fun x hx => hW'.lt x (by simp [hx])
  have k2 := h2
  obtain ⟨a0, rfl⟩ := open_rect (hval 0 23 v0 rfl rfl) h0
  obtain ⟨a1, rfl⟩ := open_rect (hval 1 23 v1 rfl rfl) h1
  obtain ⟨x2, y2, rfl⟩ := open_point (hval 2 38 v2 rfl rfl) h2
  refine (points_walk a0 a1 x2 y2 _).mono fun e W' ⟨he, hg⟩ => ?_
  subst he
  exact ⟨_, rfl, _, _, _, [], _, [], hW', trodAll_cons_mk (shut_bool Try.underlying4 _) trodAll_mk0,
    (trodAll_cons_mk (Below.trod laidOut (by kernel_rfl) (of_decide_eq_true (by kernel_rfl)) k0 hg hlt0) (trodAll_cons_mk (Below.trod laidOut (by kernel_rfl) (of_decide_eq_true (by kernel_rfl)) k1 hg hlt1) (trodAll_cons_mk (Below.trod laidOut (by kernel_rfl) (of_decide_eq_true (by kernel_rfl)) k2 hg hlt2) trodAll_mk0))), rfl, hg.frame _, fun h => by cases h⟩

theorem points_holds : Rows.RectPointsSaid :=
  OpenClaim.holds_of_wide 7 Try.f7 rfl rfl rfl rfl rfl rfl rfl ⟨rfl, rfl, rfl, rfl, rfl⟩ rfl rfl rfl rfl rfl (by kernel_rfl) Try.func7 (by kernel_rfl)
    (of_decide_eq_true (by kernel_rfl)) (by unfold Func.isWrapper; first | (rw [if_pos (by decide +kernel)]; kernel_rfl) | (rw [if_neg (by decide +kernel)]; exact ⟨rfl, rfl⟩))
    (fun os started H enc _ => points_lifted os started H enc)

end Go.Proofs.Ytalklenngalfjaa
