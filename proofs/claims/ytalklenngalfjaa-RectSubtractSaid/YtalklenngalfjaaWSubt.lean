/-
  RectSubtract: for all rectangles, the rectangles that Subtract returns are at most four, disjoint, within a and outside b, and their areas and that of the intersection add up to the area of a: the law returns true and leaves its arguments as they were. No condition.
-/
import Derived.Test.YtalklenngalfjaaHold2
import Derived.Test.YtalklenngalfjaaHeld
import Derived.IntWalk
namespace Go.Proofs.Ytalklenngalfjaa
open Go.ChangeShapes Go.WideShapes Go.ChangeAt Go.RowKit

set_option maxRecDepth 100000 in
set_option maxHeartbeats 8000000 in
theorem subtract_walk (a b : R) (w : World) : Calls Try.prog 6 #[.agg #[.int .i64 a.x0, .int .i64 a.y0, .int .i64 a.x1, .int .i64 a.y1], .agg #[.int .i64 b.x0, .int .i64 b.y0, .int .i64 b.x1, .int .i64 b.y1]] w (Says true w) := by
  have H2 := Lib.hid (Held2.new w a b)
  go_enter Try.func6, Try.ntmps6
  go_wp2_with fail
  refine (sub_any a b _).mono ?_
  rintro e wq ⟨v, rfl, ho, hbq⟩
  have HH : Hid (HeldS w wq w.heap.size a (w.heap.size + 1) b v (subR a b)) := Lib.hid ⟨(H2.out.step hbq).at1, (H2.out.step hbq).at2, ho.rs, (H2.out.step hbq).below⟩
  clear ho hbq H2
  obtain ⟨A, c, rfl, hlc, hcm⟩ := HH.out.list.shape
  have F4 := sub_four a b
  have FE := Lib.hid (fun p (hp : p ∈ subR a b) => sub_each hp)
  have FA := Lib.hid (fun i k p q (hp : (subR a b)[i]? = some p) (hq : (subR a b)[k]? = some q) (h : k < i) => sub_apart hp hq h)
  have FS := Lib.hid (sub_sum a b)
  generalize subR a b = L at *
  obtain ⟨n, hn⟩ : ∃ n, L.length = n := ⟨_, rfl⟩
  rw [hn] at F4 hlc HH ⊢
  have HN := Lib.hid hn
  clear hn
  have f4 : (n : Int) ≤ 4 := by omega
  have sk := join4 HH.out.at1.four HH.out.at2.four
  obtain ⟨a0, a1, a2, a3, b0, b1, b2, b3⟩ := sk
  unfold maxLen at hcm
  have C24 := fun W => Lib.hid (int_any a b W)
  have C17 := fun W => Lib.hid (area_any (intR a b) W)
  have C17a := fun W => Lib.hid (area_any a W)
  have hab := area_nonneg (intR a b)
  have haa := area_le a
  generalize intR a b = ab at *
  go_wp2_with fail
  refine (C24 _).out.mono ?_
  rintro e wq ⟨rfl, hbq⟩
  replace HH := Lib.hid (HH.out.step hbq)
  clear hbq a0 a1 a2 a3 b0 b1 b2 b3
  go_wp2_with fail
  refine (C17 _).out.mono ?_
  rintro e wq ⟨rfl, hbq⟩
  replace HH := Lib.hid (HH.out.step hbq)
  clear hbq
  go_wp2_with fail
  go_loopw [6, 7] (fun s6 s7 wr => ∃ j : Nat, j ≤ n ∧ s7 = .int .i64 (j : Int) ∧ s6 = .int .i64 (areaI ab + sumA (L.take j)) ∧ Hid (HeldS w wr w.heap.size a (w.heap.size + 1) b (.slice A n c) L)) (fun _ s7 _ => n - (intOf s7).toNat)
  case atStart => exact ⟨0, by omega, rfl, by simp [sumA], HH.out⟩
  case round =>
    clear HH
    obtain ⟨j, hj, rfl, rfl, HH⟩ := hrel
    by_cases hlt : j < n
    · obtain ⟨x, hx⟩ : ∃ x, L[j]? = some x := ⟨_, List.getElem?_eq_getElem (by rw [HN.out]; exact hlt)⟩
      have HX := Lib.hid hx
      obtain ⟨bb, off, c', hv, _, t0, t1, t2, t3⟩ := HH.out.list.at hx
      injection hv with e1 e2 e3
      subst e1
      clear e2 e3
      obtain ⟨hne, hwi, har⟩ := FE.out x (List.mem_of_getElem? hx)
      have hsn : sumA (L.take (j + 1)) = sumA (L.take j) + areaI x := by
        rw [List.take_add_one, hx, sumA_append]
        simp [sumA]
      have hle := sumA_take_le L (j + 1)
      have h0 := sumA_nonneg (L.take j)
      have hx0 := area_nonneg x
      have hfs := FS.out
      have D17 := fun W => Lib.hid (area_any x W)
      have D13 := fun W => Lib.hid (empty_any x W)
      have D22 := fun W => Lib.hid (with_any x a W)
      have D24 := fun W => Lib.hid (int_any x b W)
      have D17b := fun W => Lib.hid (area_any (intR x b) W)
      rw [hne] at D13
      rw [hwi] at D22
      rw [har] at D17b
      have HSN := Lib.hid hsn
      have hb0 : 0 ≤ areaI ab + sumA (L.take j) := by omega
      have hb1 : areaI ab + sumA (L.take j) + areaI x ≤ 1073741824 := by omega
      clear hx hne hwi har hsn hfs hle h0
      generalize intR x b = xb at *
      obtain ⟨sj, hsj⟩ : ∃ s, areaI ab + sumA (L.take j) = s := ⟨_, rfl⟩
      rw [hsj] at hb0 hb1 ⊢
      have HSJ := Lib.hid hsj
      clear hsj
      generalize areaI x = ax at *
      have q0 : (j : Int) < n := by omega
      have q1 : (0 : Int) ≤ j := by omega
      have hsum : IntKind.i64.wrap (sj + ax) = sj + ax := IntWalk.i64_in _ (by omega)
      go_wp2_with fail
      refine (D17 _).out.mono ?_
      rintro e wq ⟨rfl, hbq⟩
      replace HH := Lib.hid (HH.out.step hbq)
      clear hbq t0 t1 t2 t3
      go_wp2_with fail
      replace HH := Lib.hid HH.out.drew
      have sk := join4 HH.out.at1.four (join4 HH.out.at2.four (HH.out.list.cell HX.out))
      go_region_held3 (fun W => W.cell? ⟨w.heap.size, 0, none⟩ = some (.int .i64 a.x0) ∧ W.cell? ⟨w.heap.size, 1, none⟩ = some (.int .i64 a.y0) ∧ W.cell? ⟨w.heap.size, 2, none⟩ = some (.int .i64 a.x1) ∧ W.cell? ⟨w.heap.size, 3, none⟩ = some (.int .i64 a.y1) ∧ W.cell? ⟨w.heap.size + 1, 0, none⟩ = some (.int .i64 b.x0) ∧ W.cell? ⟨w.heap.size + 1, 1, none⟩ = some (.int .i64 b.y0) ∧ W.cell? ⟨w.heap.size + 1, 2, none⟩ = some (.int .i64 b.x1) ∧ W.cell? ⟨w.heap.size + 1, 3, none⟩ = some (.int .i64 b.y1) ∧ W.cell? ⟨bb, off + j * 4, none⟩ = some (.int .i64 x.x0) ∧ W.cell? ⟨bb, off + j * 4 + 1, none⟩ = some (.int .i64 x.y0) ∧ W.cell? ⟨bb, off + j * 4 + 2, none⟩ = some (.int .i64 x.x1) ∧ W.cell? ⟨bb, off + j * 4 + 3, none⟩ = some (.int .i64 x.y1))
        (first
          | exact sk
          | go_keep)
        (first
          | (go_at_call 13; (with_reducible refine ((D13 _).out).mono ?_); rintro e wq ⟨rfl, hbq⟩; replace HH := Lib.hid (HH.out.step hbq); have sk := join4 HH.out.at1.four (join4 HH.out.at2.four (HH.out.list.cell HX.out)); clear hbq)
          | (go_at_call 22; (with_reducible refine ((D22 _).out).mono ?_); rintro e wq ⟨rfl, hbq⟩; replace HH := Lib.hid (HH.out.step hbq); have sk := join4 HH.out.at1.four (join4 HH.out.at2.four (HH.out.list.cell HX.out)); clear hbq)
          | (go_at_call 24; (with_reducible refine ((D24 _).out).mono ?_); rintro e wq ⟨rfl, hbq⟩; replace HH := Lib.hid (HH.out.step hbq); have sk := join4 HH.out.at1.four (join4 HH.out.at2.four (HH.out.list.cell HX.out)); clear hbq)
          | (go_at_call 17; (with_reducible refine ((D17b _).out).mono ?_); rintro e wq ⟨rfl, hbq⟩; replace HH := Lib.hid (HH.out.step hbq); have sk := join4 HH.out.at1.four (join4 HH.out.at2.four (HH.out.list.cell HX.out)); clear hbq)
          | fail)
      all_goals
        clear sk
        go_wp2_with fail
        go_loopw [8] (fun s8 wr => ∃ k : Nat, k ≤ j ∧ s8 = .int .i64 (k : Int) ∧ Hid (HeldS w wr w.heap.size a (w.heap.size + 1) b (.slice (some ⟨bb, off, none⟩) n c) L)) (fun s8 _ => j - (intOf s8).toNat)
        case atStart => exact ⟨0, by omega, rfl, HH.out⟩
        case round =>
          clear HH
          obtain ⟨k, hk, rfl, HH⟩ := hrel
          by_cases hkt : k < j
          · obtain ⟨y, hy⟩ : ∃ y, L[k]? = some y := ⟨_, List.getElem?_eq_getElem (by rw [HN.out]; omega)⟩
            have HY := Lib.hid hy
            have hxy := FA.out j k x y HX.out hy hkt
            have E24 := fun W => Lib.hid (int_any x y W)
            have E17 := fun W => Lib.hid (area_any (intR x y) W)
            rw [hxy] at E17
            generalize intR x y = xy at *
            clear hy hxy
            have p0 : (k : Int) < j := by omega
            have p1 : (0 : Int) ≤ k := by omega
            have p2 : (k : Int) < n := by omega
            go_wp2_with fail
            replace HH := Lib.hid HH.out.drew
            have sk := join4 (HH.out.list.cell HX.out) (HH.out.list.cell HY.out)
            go_region_held3 (fun W => W.cell? ⟨bb, off + j * 4, none⟩ = some (.int .i64 x.x0) ∧ W.cell? ⟨bb, off + j * 4 + 1, none⟩ = some (.int .i64 x.y0) ∧ W.cell? ⟨bb, off + j * 4 + 2, none⟩ = some (.int .i64 x.x1) ∧ W.cell? ⟨bb, off + j * 4 + 3, none⟩ = some (.int .i64 x.y1) ∧ W.cell? ⟨bb, off + k * 4, none⟩ = some (.int .i64 y.x0) ∧ W.cell? ⟨bb, off + k * 4 + 1, none⟩ = some (.int .i64 y.y0) ∧ W.cell? ⟨bb, off + k * 4 + 2, none⟩ = some (.int .i64 y.x1) ∧ W.cell? ⟨bb, off + k * 4 + 3, none⟩ = some (.int .i64 y.y1))
              (first
                | exact sk
                | go_keep)
              (first
                | (go_at_call 24; (with_reducible refine ((E24 _).out).mono ?_); rintro e wq ⟨rfl, hbq⟩; replace HH := Lib.hid (HH.out.step hbq); have sk := join4 (HH.out.list.cell HX.out) (HH.out.list.cell HY.out); clear hbq)
                | (go_at_call 17; (with_reducible refine ((E17 _).out).mono ?_); rintro e wq ⟨rfl, hbq⟩; replace HH := Lib.hid (HH.out.step hbq); have sk := join4 (HH.out.list.cell HX.out) (HH.out.list.cell HY.out); clear hbq)
                | fail)
            all_goals
              go_wp2_with fail
              go_roundw
              case rel => exact ⟨k + 1, by omega, by go_num, HH.out⟩
              case measure => simp [intOf]; omega
          · have p0 : (j : Int) ≤ (k : Int) := by omega
            go_wp2_with fail
            go_roundw
            case rel => exact ⟨j + 1, by omega, by go_num, by rw [HSN.out, ← HSJ.out]; congr 1; omega, HH.out⟩
            case measure => simp [intOf]; omega
    · have q0 : (n : Int) ≤ (j : Int) := by omega
      have hfs : areaI ab + sumA (L.take j) = areaI a := by rw [List.take_of_length_le (by rw [HN.out]; omega)]; exact FS.out
      rw [hfs]
      generalize areaI a = aa at *
      clear hfs
      obtain ⟨a0, a1, a2, a3⟩ := HH.out.at1.four
      go_wp2_with fail
      refine (C17a _).out.mono ?_
      rintro e wq ⟨rfl, hbq⟩
      replace HH := Lib.hid (HH.out.step hbq)
      clear hbq a0 a1 a2 a3
      go_wp2_with fail
      refine (example_any _).mono ?_
      rintro e wq ⟨rfl, hbq⟩
      replace HH := Lib.hid (HH.out.step hbq)
      clear hbq
      go_wp2_with fail
      go_ret
      exact ⟨rfl, HH.out.below⟩

set_option maxRecDepth 100000 in
theorem subtract_lifted (os : Os) (started : os.Started) (H : Type) (enc : TypeId × Value → H) :
    ReturnsInHanded {} Try.checked os 6 .any (Rows.rectSubtractSpec.pre6 enc Try.prog Try.f6 Rows.rectSubtractRow.domain false) (Rows.rectSubtractSpec.post enc Try.prog Try.f6 false true false false) := by
  refine returnsInHanded_of_change (C := Try.checked) own started (by kernel_rfl) Try.func6
    (ChangeSpec.witness6 (enc := enc) (C := Try.checked) false ⟨#[], #[.agg #[.int .i64 0, .int .i64 0, .int .i64 0, .int .i64 0], .agg #[.int .i64 0, .int .i64 0, .int .i64 0, .int .i64 0]], []⟩ 8 (by kernel_rfl) (by kernel_rfl) (by kernel_rfl) (by kernel_rfl)) ?_
  intro W base args ds gs before hval0 hW _ _
  have hval : ∀ (j : Nat) t v, Try.f6.params[j]? = some t → args[j]? = some v → Value.okWide Try.prog W .any base t v := hval0
  have hW' := hW
  obtain ⟨p, q, hA0, hV, rfl, _, _⟩ := hW
  have hA : DataW.TrodAll enc Try.prog W 0 (fun _ => true) true Try.f6.params.toList args.toList ds p := hA0
  rw [Try.params6] at hA hval
  obtain ⟨v0, vs0, d0, ds0, p0, q0, hargs, rfl, rfl, h0, r0⟩ := trodAll_cons hA
  obtain ⟨v1, vs1, d1, ds1, p1, q1, rfl, rfl, rfl, h1, r1⟩ := trodAll_cons r0
  obtain ⟨rfl, rfl, rfl⟩ := trodAll_nil r1
  obtain rfl : args = #[v0, v1] := by cases args; simp_all
  obtain ⟨rfl, rfl⟩ := trodVars_none hV
  clear hA0 hval0
  simp only [List.append_nil] at hW'
  have hlt0 : ∀ x ∈ p0, x.block < W.heap.size := fun x hx => hW'.lt x (by simp [hx])
  have k0 := h0
  have hlt1 : ∀ x ∈ p1, x.block < W.heap.size := fun x hx => hW'.lt x (by simp [hx])
  have k1 := h1
  obtain ⟨a0, rfl⟩ := open_rect (hval 0 23 v0 rfl rfl) h0
  obtain ⟨a1, rfl⟩ := open_rect (hval 1 23 v1 rfl rfl) h1
  refine (subtract_walk a0 a1 _).mono fun e W' ⟨he, hg⟩ => ?_
  subst he
  exact ⟨_, rfl, _, _, _, [], _, [], hW', trodAll_cons_mk (shut_bool Try.underlying4 _) trodAll_mk0,
    (trodAll_cons_mk (Below.trod laidOut (by kernel_rfl) (of_decide_eq_true (by kernel_rfl)) k0 hg hlt0) (trodAll_cons_mk (Below.trod laidOut (by kernel_rfl) (of_decide_eq_true (by kernel_rfl)) k1 hg hlt1) trodAll_mk0)), rfl, hg.frame _, fun h => by cases h⟩

theorem subtract_holds : Rows.RectSubtractSaid :=
  OpenClaim.holds_of_wide 6 Try.f6 rfl rfl rfl rfl rfl rfl rfl ⟨rfl, rfl, rfl, rfl, rfl⟩ rfl rfl rfl rfl rfl (by kernel_rfl) Try.func6 (by kernel_rfl)
    (of_decide_eq_true (by kernel_rfl)) (by unfold Func.isWrapper; first | (rw [if_pos (by decide +kernel)]; kernel_rfl) | (rw [if_neg (by decide +kernel)]; exact ⟨rfl, rfl⟩))
    (fun os started H enc _ => subtract_lifted os started H enc)

end Go.Proofs.Ytalklenngalfjaa
