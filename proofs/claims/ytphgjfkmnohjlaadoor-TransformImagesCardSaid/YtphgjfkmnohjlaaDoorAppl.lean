/-
  Apply of package transform and of its reference: the position of a pixel, the zero Point where there is none.
-/
import Derived.Test.YtphgjfkmnohjlaaDoorRcmp
namespace Go.Proofs.YtphgjfkmnohjlaaDoor
open Go.RowKit

/-- whether x, y is a pixel of an image of a by b pixels within the limits -/
def inB (a b x y : Int) : Bool := szB a b && (decide (0 ≤ x) && decide (x < a)) && (decide (0 ≤ y) && decide (y < b))
def apX (t a b x y : Int) : Int := if inB a b x y then posX t a b x y else 0
def apY (t a b x y : Int) : Int := if inB a b x y then posY t a b x y else 0

theorem inB_iff {a b x y : Int} : inB a b x y = true ↔ ((1 ≤ a ∧ a ≤ 16384) ∧ (1 ≤ b ∧ b ≤ 16384)) ∧ (0 ≤ x ∧ x < a) ∧ (0 ≤ y ∧ y < b) := by
  simp only [inB, szB, Bool.and_eq_true, decide_eq_true_eq, and_assoc]

theorem inB_pix {a b x y : Int} (h : inB a b x y = true) : Pix a b x y := by
  obtain ⟨h0, h1, h2⟩ := inB_iff.1 h
  exact ⟨⟨h1, h2⟩, h0.1.2, h0.2.2⟩

theorem con_image (a b x y : Int) : conB ⟨0, 0, a, b⟩ x y = inB a b x y := by
  rw [Bool.eq_iff_iff, con_iff, emp_no, inB_iff]
  simp only
  constructor
  · intro h; omega
  · intro h; omega

/-- the world behind the boxes of a point and of a result -/
abbrev PP (w : World) (x y : Int) : World := (w.alloc (.cells #[.int .i64 x, .int .i64 y] 23)).alloc (.cells #[.int .i64 0, .int .i64 0] 23)

theorem pp_held {w W : World} {x y : Int} (h : Below (PP w x y).heap.size (PP w x y) W) : Two W w.heap.size (.int .i64 x) (.int .i64 y) ∧ Two W (w.heap.size + 1) (.int .i64 0) (.int .i64 0) ∧ Below w.heap.size w W ∧ w.heap.size + 1 < W.heap.size := by
  have T0 := (Two.new w (.int .i64 x) (.int .i64 y) 23).alloc (by rw [World.size_alloc]; exact Nat.lt_succ_self _) (.cells #[.int .i64 0, .int .i64 0] 23)
  have T1 := Two.new (w.alloc (.cells #[.int .i64 x, .int .i64 y] 23)) (.int .i64 0) (.int .i64 0) 23
  rw [World.size_alloc] at T1
  have hs : (PP w x y).heap.size = w.heap.size + 2 := by simp [PP]
  have hz := h.size
  have HB : Below w.heap.size w (PP w x y) := ((Below.refl w.heap.size w).alloc (Nat.le_refl _) _).alloc (Nat.le_of_lt (by rw [World.size_alloc]; exact Nat.lt_succ_self _)) _
  exact ⟨T0.keep h (by omega), T1.keep h (by omega), Below.next HB h, by omega⟩

theorem pp_cells {w W : World} {x y : Int} (h : Below (PP w x y).heap.size (PP w x y) W) : W.cell? ⟨w.heap.size, 0, none⟩ = some (.int .i64 x) ∧ W.cell? ⟨w.heap.size, 1, none⟩ = some (.int .i64 y) := ⟨(pp_held h).1.1, (pp_held h).1.2.1⟩

set_option maxRecDepth 100000 in
set_option maxHeartbeats 4000000 in
theorem apply_any (t a b x y : Int) (w : World) : Calls Tryd.prog 19 #[.int .i64 t, .int .i64 a, .int .i64 b, .agg #[.int .i64 x, .int .i64 y]] w fun e w' => e = .returned (.agg #[.int .i64 (apX t a b x y), .int .i64 (apY t a b x y)]) ∧ Below w.heap.size w w' := by
  have C1 := fun W => Lib.hid (image_any a b W)
  have C2 := fun W => Lib.hid (contains_any ⟨0, 0, a, b⟩ x y W)
  simp only [con_image] at C2
  have J := Lib.hid (Below.refl (PP w x y).heap.size (PP w x y)).drew
  have sk := pp_cells J.out
  cases hin : inB a b x y
  · rw [hin] at C2
    have e0 : apX t a b x y = 0 := by simp [apX, hin]
    have e1 : apY t a b x y = 0 := by simp [apY, hin]
    rw [e0, e1]
    clear e0 e1 hin
    go_enter Tryd.func19, Tryd.ntmps19
    go_wp2_with fail
    go_region_held3 (fun W => W.cell? ⟨w.heap.size, 0, none⟩ = some (.int .i64 x) ∧ W.cell? ⟨w.heap.size, 1, none⟩ = some (.int .i64 y))
      (first
        | exact sk
        | go_keep)
      (first
        | (go_at_call 37; (with_reducible refine (C1 _).out.mono ?_); rintro e wq ⟨rfl, hbq⟩; replace J := Lib.hid (Below.next J.out hbq); (try clear sk); have sk := pp_cells J.out; clear hbq)
        | (go_at_call 36; (with_reducible refine (C2 _).out.mono ?_); rintro e wq ⟨rfl, hbq⟩; replace J := Lib.hid (Below.next J.out hbq); (try clear sk); have sk := pp_cells J.out; clear hbq)
        | fail)
    all_goals
      obtain ⟨_, ⟨c0, c1, cf⟩, B0, _⟩ := pp_held J.out
      replace B0 := Lib.hid B0
      go_wp2_with fail
      refine bodyPost_ret (v := .agg #[.int .i64 0, .int .i64 0]) (by simp [results, Tryd.results19, go_sem, c0, c1]) rfl ⟨rfl, ?_⟩
      exact below_set2 B0.out (Nat.le_succ _)
  · rw [hin] at C2
    have e0 : apX t a b x y = posX t a b x y := by simp [apX, hin]
    have e1 : apY t a b x y = posY t a b x y := by simp [apY, hin]
    rw [e0, e1]
    have C3 := fun W => Lib.hid (position_any t a b x y (inB_pix hin) W)
    clear e0 e1 hin
    generalize posX t a b x y = X at *
    generalize posY t a b x y = Y at *
    go_enter Tryd.func19, Tryd.ntmps19
    go_wp2_with fail
    go_region_held3 (fun W => W.cell? ⟨w.heap.size, 0, none⟩ = some (.int .i64 x) ∧ W.cell? ⟨w.heap.size, 1, none⟩ = some (.int .i64 y))
      (first
        | exact sk
        | go_keep)
      (first
        | (go_at_call 37; (with_reducible refine (C1 _).out.mono ?_); rintro e wq ⟨rfl, hbq⟩; replace J := Lib.hid (Below.next J.out hbq); (try clear sk); have sk := pp_cells J.out; clear hbq)
        | (go_at_call 36; (with_reducible refine (C2 _).out.mono ?_); rintro e wq ⟨rfl, hbq⟩; replace J := Lib.hid (Below.next J.out hbq); (try clear sk); have sk := pp_cells J.out; clear hbq)
        | fail)
    all_goals
      go_wp2_with fail
      refine (C3 _).out.mono ?_
      rintro e w1 ⟨rfl, hb⟩
      replace J := Lib.hid (Below.next J.out hb)
      obtain ⟨_, ⟨c0, c1, cf⟩, B0, _⟩ := pp_held J.out
      replace B0 := Lib.hid B0
      clear hb
      go_wp2_with fail
      refine bodyPost_ret (v := .agg #[.int .i64 X, .int .i64 Y]) (by simp [results, Tryd.results19, go_sem, c0, c1]) rfl ⟨rfl, ?_⟩
      exact below_set2 B0.out (Nat.le_succ _)

/-- the checks of the reference -/
theorem inB_off {a b x y : Int} (h : inB a b x y = false) (hs : szB a b = true) : x < 0 ∨ a ≤ x ∨ y < 0 ∨ b ≤ y := by
  have h0 : ¬ inB a b x y = true := by rw [h]; simp
  rw [inB_iff] at h0
  have h1 : (1 ≤ a ∧ a ≤ 16384) ∧ (1 ≤ b ∧ b ≤ 16384) := of_decide_eq_true hs
  omega

set_option maxRecDepth 100000 in
set_option maxHeartbeats 4000000 in
theorem rapply_any (t a b x y : Int) (w : World) : Calls Tryd.prog 20 #[.int .i64 t, .int .i64 a, .int .i64 b, .agg #[.int .i64 x, .int .i64 y]] w fun e w' => e = .returned (.agg #[.int .i64 (apX t a b x y), .int .i64 (apY t a b x y)]) ∧ Below w.heap.size w w' := by
  have C1 := fun W => Lib.hid (sized_any a b W)
  have J := Lib.hid (Below.refl (PP w x y).heap.size (PP w x y))
  have B0 := Lib.hid (pp_held J.out).2.2.1
  cases hin : inB a b x y
  · have e0 : apX t a b x y = 0 := by simp [apX, hin]
    have e1 : apY t a b x y = 0 := by simp [apY, hin]
    rw [e0, e1]
    clear e0 e1
    cases hs : szB a b
    · rw [hs] at C1
      clear hin hs
      go_enter Tryd.func20, Tryd.ntmps20
      go_wp2_with (go_at_call 39; refine (C1 _).out.mono ?_; rintro e wq ⟨rfl, rfl⟩)
      refine bodyPost_ret (v := .agg #[.int .i64 0, .int .i64 0]) (by simp [results, Tryd.results20, go_sem]) rfl ⟨rfl, ?_⟩
      exact B0.out
    · have hoff := inB_off hin hs
      rw [hs] at C1
      clear hin hs
      by_cases g0 : x < 0 <;> by_cases g1 : a ≤ x <;> by_cases g2 : y < 0 <;> by_cases g3 : b ≤ y
      all_goals first
        | (exfalso; omega)
        | (clear hoff
           go_enter Tryd.func20, Tryd.ntmps20
           go_wp2_with (go_at_call 39; refine (C1 _).out.mono ?_; rintro e wq ⟨rfl, rfl⟩)
           refine bodyPost_ret (v := .agg #[.int .i64 0, .int .i64 0]) (by simp [results, Tryd.results20, go_sem]) rfl ⟨rfl, ?_⟩
           exact B0.out)
  · have e0 : apX t a b x y = posX t a b x y := by simp [apX, hin]
    have e1 : apY t a b x y = posY t a b x y := by simp [apY, hin]
    rw [e0, e1]
    have C2 := fun W => Lib.hid (rclean_any t W)
    have C3 := fun W => Lib.hid (place_any (cl t) a b x y (cl_in t) (inB_pix hin) W)
    rw [(pos_cl t a b x y).1, (pos_cl t a b x y).2] at C3
    obtain ⟨g4, g5, g6⟩ := inB_iff.1 hin
    have hs : szB a b = true := decide_eq_true g4
    rw [hs] at C1
    have g0 : ¬ x < 0 := by omega
    have g1 : ¬ a ≤ x := by omega
    have g2 : ¬ y < 0 := by omega
    have g3 : ¬ b ≤ y := by omega
    clear e0 e1 hin g4 g5 g6 hs
    generalize posX t a b x y = X at *
    generalize posY t a b x y = Y at *
    generalize cl t = c at *
    go_enter Tryd.func20, Tryd.ntmps20
    go_wp2_with (go_at_call 39; refine (C1 _).out.mono ?_; rintro e wq ⟨rfl, rfl⟩)
    go_region_with (first
      | (go_at_call 34; (with_reducible refine (C2 _).out.mono ?_); rintro e wq ⟨rfl, rfl⟩)
      | (go_at_call 35; (with_reducible refine (C3 _).out.mono ?_); rintro e w1 ⟨rfl, hb⟩; replace J := Lib.hid (Below.next J.out.drew hb); obtain ⟨_, ⟨c0, c1, cf⟩, B1, _⟩ := pp_held J.out; replace B1 := Lib.hid B1; clear hb))
    all_goals
      go_wp2_with fail
      refine bodyPost_ret (v := .agg #[.int .i64 X, .int .i64 Y]) (by simp [results, Tryd.results20, go_sem, c0, c1]) rfl ⟨rfl, ?_⟩
      exact below_set2 B1.out (Nat.le_succ _)

end Go.Proofs.YtphgjfkmnohjlaaDoor
