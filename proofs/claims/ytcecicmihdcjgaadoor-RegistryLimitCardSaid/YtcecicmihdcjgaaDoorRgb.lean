/-
  The reference's List.
-/
import Derived.Test.YtcecicmihdcjgaaDoorHgl
namespace Go.Proofs.YtcecicmihdcjgaaDoor
open Go.RowKit

theorem filt_take {l : List Gl} {i : Nat} {r : Gl} (p : Gl → Bool) (h : l[i]? = some r) : (l.take (i + 1)).filter p = (l.take i).filter p ++ if p r = true then [r] else [] := by
  rw [List.take_add_one, h, List.filter_append]
  by_cases h0 : p r = true
  · simp [h0]
  · simp [h0]
theorem filt_len (p : Gl → Bool) (l : List Gl) (i : Nat) : ((l.take i).filter p).length ≤ l.length := Nat.le_trans (List.length_filter_le _ _) (by rw [List.length_take]; omega)

set_option maxRecDepth 100000 in
set_option maxHeartbeats 4000000 in
theorem list_any {w : World} {v : Value} {l : List Gl} (h : Gs w v l) (hl : l.length ≤ 1000000) :
    Calls Tryd.prog 20 #[.agg #[v]] w fun e w' => ∃ u, e = .returned u ∧ OwnG w' w.heap.size u (listF l) ∧ Below w.heap.size w w' := by
  have HA := Lib.hid h
  have CA := fun (W : World) (hb : Below w.heap.size w W) (q : Nat) => Lib.hid (announced_any (h.below hb) q)
  obtain ⟨A, c, rfl, hc, hm⟩ := h.shape
  simp only [maxLen] at hm
  have J1 := ((Held.nil w).alloc [.slice A l.length c] 28).hg
  have HL : Hid (l.length ≤ 1000000) := Lib.hid hl
  obtain ⟨n, hn⟩ : ∃ n, l.length = n := ⟨_, rfl⟩
  have HN := Lib.hid hn
  rw [hn] at hc HA J1 CA ⊢
  have J0 := Lib.hid J1
  clear h hn hl J1
  go_enter Tryd.func20, Tryd.ntmps20
  go_wp2_with fail
  go_loopw [3, 4] (fun s3 s4 wr => ∃ (i : Nat) (A3 : Option Addr) (k3 c3 : Nat), i ≤ n ∧ s4 = .int .i64 (i : Int) ∧ s3 = .slice A3 k3 c3 ∧ Hid (HG w wr [(w.heap.size, [.slice A n c])] (.slice A3 k3 c3) ((l.take i).filter (listP l)))) (fun _ s4 _ => leftN n s4)
  case atStart => exact ⟨0, none, 0, 0, Nat.zero_le _, rfl, rfl, J0⟩
  case round =>
    clear J0
    obtain ⟨i, A3, k3, c3, hi, rfl, rfl, J⟩ := hrel
    obtain ⟨y0, -, -⟩ := (show Held w wr ([] ++ (w.heap.size, _) :: []) from J.out.held).one
    by_cases hlt : i < n
    · have q0 : (0 : Int) ≤ i := by omega
      have q1 : (i : Int) < n := by omega
      obtain ⟨x, hx⟩ : ∃ x, l[i]? = some x := ⟨_, List.getElem?_eq_getElem (by rw [HN.out]; exact hlt)⟩
      have ht := filt_take (listP l) hx
      have hlen := Lib.hid (filt_len (listP l) l i)
      obtain ⟨b1, o1, rfl, hbl, _⟩ := gs_at HA.out J.out.held.below hx
      have GA := fun (W : World) (hb : Below w.heap.size w W) => (show GlAt W b1 (o1 + i * 3) x from by
        obtain ⟨b2, o2, e, _, g⟩ := gs_at HA.out hb hx
        simp only [Option.some.injEq, Addr.mk.injEq] at e
        obtain ⟨rfl, rfl, -⟩ := e
        exact g)
      obtain ⟨c0, c1, c2⟩ := GA wr J.out.held.below
      have HX := Lib.hid hx
      have hp : listP l x = (!(decide (x.vr = 0)) && (annF l x.nm).2) := rfl
      rw [hp] at ht
      clear hp
      by_cases h0 : x.vr = 0
      · rw [decide_eq_true h0] at ht
        simp only [Bool.not_true, Bool.false_and, Bool.false_eq_true, if_false, List.append_nil] at ht
        have b0 : (x.vr == 0) = true := by rw [h0]; rfl
        have J2 := Lib.hid (show HG w wr [(w.heap.size, [.slice (some ⟨b1, o1, none⟩) n c])] (.slice A3 k3 c3) ((l.take (i + 1)).filter (listP l)) from by
          rw [ht]
          exact J.out)
        clear ht hx J CA GA HX
        go_wp2_with fail
        go_roundw
        case rel => exact ⟨i + 1, A3, k3, c3, by omega, by go_num, rfl, J2⟩
        case measure =>
          unfold leftN
          simp [intOf]
          omega
      · rw [decide_eq_false h0] at ht
        simp only [Bool.not_false, Bool.true_and] at ht
        have b0 : (x.vr == 0) = false := beq_eq_false_iff_ne.2 h0
        have C := fun (W : World) (hb : Below w.heap.size w W) => CA W hb x.nm
        obtain ⟨⟨ga, gb⟩, hg⟩ : ∃ a, annF l x.nm = a := ⟨_, rfl⟩
        rw [hg] at C ht
        have HT := Lib.hid ht
        clear ht hx CA hg
        go_wp2_with fail
        have Jb := J
        have ne0 : ¬ wr.heap.size = w.heap.size := by
          have := (show Held w wr ([] ++ (w.heap.size, _) :: []) from Jb.out.held).one.2.2
          omega
        have ne1 : ¬ wr.heap.size = b1 := by
          have := Jb.out.held.below.size
          omega
        replace J := Lib.hid J.out.drew
        have SK := fun (W : World) (hW : Held w W [(w.heap.size, [.slice (some ⟨b1, o1, none⟩) n c])]) => And.intro (show Held w W ([] ++ (w.heap.size, _) :: []) from hW).one.1 (GA W hW.below).1
        have sk := SK _ J.out.held
        go_region_held3 (fun W => W.cell? ⟨w.heap.size, 0, none⟩ = some (.slice (some ⟨b1, o1, none⟩) n c) ∧ W.cell? ⟨b1, o1 + i * 3, none⟩ = some (.int .u32 (x.nm : Int)))
          (first
            | exact sk
            | exact SK _ (Jb.out.made _).drew.held
            | go_keep)
          (first
            | (go_at_call 37; (with_reducible refine (C _ J.out.held.below).out.mono ?_); rintro e wq ⟨rfl, hb⟩; replace J := Lib.hid (J.out.step hb); clear sk hb; have sk := SK _ J.out.held)
            | (go_at_call 37; (with_reducible refine (C _ (Jb.out.alloc [.int .u32 0, .string ⟨#[]⟩, .int .i64 0] 49).drew.held.below).out.mono ?_); rintro e wq ⟨rfl, hb⟩; replace J := Lib.hid ((Jb.out.alloc [.int .u32 0, .string ⟨#[]⟩, .int .i64 0] 49).drew.step hb); clear sk hb; have sk := SK _ (J.out.sub (List.sublist_cons_self _ _)).held; obtain ⟨z0, z1, z2, zf, _⟩ := (show Held w wq ([] ++ (wr.heap.size, _) :: [_]) from J.out.held).tri)
            | fail)
        all_goals
          first
            | (replace J := Lib.hid (((((show HG w _ ([] ++ (wr.heap.size, [.int .u32 0, .string ⟨#[]⟩, .int .i64 0]) :: [_]) _ _ from J.out).cell (i := 0) (by simp) (.int .u32 (ga.nm : Int))).cell (i := 1) (by simp) (.string ga.it)).cell (i := 2) (by simp) (.int .i64 ga.vr)).sub (List.sublist_cons_self _ _)); clear z0 z1 z2 zf; generalize ((wq.setCell ⟨wr.heap.size, 0, none⟩ (.int .u32 (ga.nm : Int))).setCell ⟨wr.heap.size, 1, none⟩ (.string ga.it)).setCell ⟨wr.heap.size, 2, none⟩ (.int .i64 ga.vr) = w7 at *)
            | (replace J := Lib.hid (J.out.made (.cells #[.int .u32 (ga.nm : Int), .string ga.it, .int .i64 ga.vr] 49)); generalize wq.alloc (.cells #[.int .u32 (ga.nm : Int), .string ga.it, .int .i64 ga.vr] 49) = w7 at *)
          clear sk Jb SK C y0 c0 c1 c2
          obtain ⟨y0, -, -⟩ := (show Held w w7 ([] ++ (w.heap.size, _) :: []) from J.out.held).one
          obtain ⟨c0, c1, c2⟩ := GA w7 J.out.held.below
          cases gb with
          | false =>
            have J2 := Lib.hid (show HG w w7 [(w.heap.size, [.slice (some ⟨b1, o1, none⟩) n c])] (.slice A3 k3 c3) ((l.take (i + 1)).filter (listP l)) from by
              rw [HT.out]
              simpa using J.out)
            clear J HT
            go_wp2_with fail
            go_roundw
            case rel => exact ⟨i + 1, A3, k3, c3, by omega, by go_num, rfl, J2⟩
            case measure =>
              unfold leftN
              simp [intOf]
              omega
          | true =>
            have HT2 : Hid ((l.take (i + 1)).filter (listP l) = (l.take i).filter (listP l) ++ [x]) := Lib.hid (by rw [HT.out, if_pos rfl])
            clear HT
            go_wp2_with (at_builtin; refine wpList_appG rfl _ _ rfl (base := w.heap.size) (l := (l.take i).filter (listP l)) (m := [x]) rfl (J.out.made _).own rfl (gs_one w7 x) (by have := HL.out; have := hlen.out; simp only [List.length_cons, List.length_nil]; omega) (J.out.made _).held.below.size ?_; intro v5 w5 ho5 hg5 hw5; rw [← HT2.out] at ho5; have JN := (J.out.made _).app ho5 hg5 hw5; obtain ⟨A5, c5, rfl, _, _⟩ := ho5.gs.shape; have J2 := Lib.hid JN; clear J JN ho5 hg5 hw5)
            generalize ((l.take (i + 1)).filter (listP l)).length = k5 at *
            go_roundw
            case rel => exact ⟨i + 1, A5, k5, c5, by omega, by go_num, rfl, J2⟩
            case measure =>
              unfold leftN
              simp [intOf]
              omega
    · obtain rfl : n = i := by omega
      have hj := J.out
      rw [List.take_of_length_le (by rw [HN.out]; exact Nat.le_refl _)] at hj
      have K := Lib.hid hj
      clear J hj CA
      go_wp2_with fail
      go_ret
      exact ⟨_, rfl, K.out.own, K.out.held.below⟩

end Go.Proofs.YtcecicmihdcjgaaDoor
