/-
  exampleHolds: the examples of the chapter; inside and small of the laws.
-/
import Derived.Test.YtphgjfkmnohjlaaDoorRrect
namespace Go.Proofs.YtphgjfkmnohjlaaDoor
open Go.RowKit

/-- a law's answer b, and nothing that was there has turned -/
def Says (b : Bool) (w : World) (e : Ending) (w' : World) : Prop := e = .returned (.bool b) ∧ Below w.heap.size w w'

theorem xw : siW 1 4 2 = 2 := by decide
theorem xh : siH 1 4 2 = 4 := by decide
theorem xx : apX 1 4 2 0 0 = 0 := by decide
theorem xy : apY 1 4 2 0 0 = 3 := by decide
theorem xc1 : comp 4 1 = 5 := by decide
theorem xc2 : comp 1 4 = 7 := by decide
theorem xi : inv 1 = 3 := by decide
theorem xr : apR 1 4 2 ⟨0, 0, 1, 2⟩ = ⟨0, 3, 2, 4⟩ := by rfl

set_option maxRecDepth 100000 in
set_option maxHeartbeats 4000000 in
theorem example_any (w : World) (h : Tab w) : Calls Tryd.prog 18 #[] w (Says true w) := by
  have HT := Lib.hid h
  clear h
  have C1 := fun W => Lib.hid (size_any 1 4 2 W)
  have C2 := fun W => Lib.hid (apply_any 1 4 2 0 0 W)
  have C3 := fun W h => Lib.hid (compose_any 4 1 W h)
  have C4 := fun W h => Lib.hid (compose_any 1 4 W h)
  have C5 := fun W h => Lib.hid (invert_any 1 W h)
  have C6 := fun W => Lib.hid (validt_any 7 W)
  have C7 := fun W => Lib.hid (validt_any 8 W)
  have C8 := fun W => Lib.hid (aprect_any 1 4 2 ⟨0, 0, 1, 2⟩ W)
  rw [xw, xh] at C1
  rw [xx, xy] at C2
  rw [xc1] at C3
  rw [xc2] at C4
  rw [xi] at C5
  rw [show vT 7 = true from rfl] at C6
  rw [show vT 8 = false from rfl] at C7
  rw [xr] at C8
  dsimp only at C8
  go_enter Tryd.func18, Tryd.ntmps18
  go_wp2_with fail
  refine (C1 _).out.mono ?_
  rintro e wq ⟨rfl, rfl⟩
  go_wp2_with fail
  refine (C2 _).out.mono ?_
  rintro e w1 ⟨rfl, hb⟩
  have K := Lib.hid hb
  have P := Lib.hid (HeldP.new hb 0 3)
  clear hb
  obtain ⟨p0, p1⟩ := P.out.cells
  go_wp2_with fail
  refine (C3 _ (HT.out.below P.out.below)).out.mono ?_
  rintro e w2 ⟨rfl, hb⟩
  replace P := Lib.hid (P.out.step hb)
  clear hb p0 p1
  go_wp2_with fail
  refine (C4 _ (HT.out.below P.out.below)).out.mono ?_
  rintro e w3 ⟨rfl, hb⟩
  replace P := Lib.hid (P.out.step hb)
  clear hb
  go_wp2_with fail
  refine (C5 _ (HT.out.below P.out.below)).out.mono ?_
  rintro e w4 ⟨rfl, hb⟩
  replace P := Lib.hid (P.out.step hb)
  clear hb
  go_wp2_with (first
    | (go_at_call 12; (with_reducible refine (C6 _).out.mono ?_); rintro e wq ⟨rfl, rfl⟩)
    | (go_at_call 12; (with_reducible refine (C7 _).out.mono ?_); rintro e wq ⟨rfl, rfl⟩)
    | (go_at_call 21; (with_reducible refine (C8 _).out.mono ?_); rintro e w5 ⟨rfl, hb⟩; replace P := Lib.hid (P.out.step hb); clear hb))
  go_ret
  exact ⟨rfl, P.out.below⟩

set_option maxHeartbeats 2000000 in
theorem small_any (a b : Int) (A : Option Addr) (n c : Nat) (w : World) : Calls Tryd.prog 23 #[.agg #[.int .i64 a, .int .i64 b, .slice A n c]] w fun e w' => e = .returned (.bool (decide (n ≤ 400))) ∧ Below w.heap.size w w' := by
  by_cases h : n ≤ 400
  · have h0 : (n : Int) ≤ 400 := by omega
    rw [decide_eq_true h]
    clear h
    go_enter Tryd.func23, Tryd.ntmps23
    go_wp2
    go_ret
    exact ⟨rfl, (Below.refl _ _).alloc (Nat.le_refl _) _⟩
  · have h0 : ¬ (n : Int) ≤ 400 := by omega
    rw [decide_eq_false h]
    clear h
    go_enter Tryd.func23, Tryd.ntmps23
    go_wp2
    go_ret
    exact ⟨rfl, (Below.refl _ _).alloc (Nat.le_refl _) _⟩

/-- inside of the laws -/
def insB (a b x y : Int) : Bool := decide (1 ≤ a) && decide (a ≤ 100) && decide (1 ≤ b) && decide (b ≤ 100) && decide (0 ≤ x) && decide (x < a) && decide (0 ≤ y) && decide (y < b)

theorem insB_in {a b x y : Int} (h : insB a b x y = true) : inB a b x y = true := by
  simp only [insB, Bool.and_eq_true, decide_eq_true_eq] at h
  rw [inB_iff]
  omega

set_option maxRecDepth 100000 in
set_option maxHeartbeats 4000000 in
theorem inside_any (a b x y : Int) (r : R) (w : World) : Calls Tryd.prog 28 #[.agg #[.int .i64 a, .int .i64 b, .int .i64 x, .int .i64 y, .int .i64 r.x0, .int .i64 r.y0, .int .i64 r.x1, .int .i64 r.y1]] w fun e w' => e = .returned (.bool (insB a b x y)) ∧ Below w.heap.size w w' := by
  obtain ⟨v, hv⟩ : ∃ v, insB a b x y = v := ⟨_, rfl⟩
  rw [hv]
  unfold insB at hv
  by_cases h0 : 1 ≤ a
  · by_cases h1 : a ≤ 100
    · by_cases h2 : 1 ≤ b
      · by_cases h3 : b ≤ 100
        · by_cases h4 : 0 ≤ x
          · by_cases h5 : x < a
            · by_cases h6 : 0 ≤ y
              · by_cases h7 : y < b <;> simp [h0, h1, h2, h3, h4, h5, h6, h7] at hv <;> subst hv <;>
                  (go_enter Tryd.func28, Tryd.ntmps28
                   go_wp2
                   go_ret
                   exact ⟨ret_bool (by simp [*]), (Below.refl _ _).alloc (Nat.le_refl _) _⟩)
              all_goals (simp [h0, h1, h2, h3, h4, h5, h6] at hv; subst hv; go_enter Tryd.func28, Tryd.ntmps28; go_wp2; go_ret; exact ⟨ret_bool (by simp [*]), (Below.refl _ _).alloc (Nat.le_refl _) _⟩)
            all_goals (simp [h0, h1, h2, h3, h4, h5] at hv; subst hv; go_enter Tryd.func28, Tryd.ntmps28; go_wp2; go_ret; exact ⟨ret_bool (by simp [*]), (Below.refl _ _).alloc (Nat.le_refl _) _⟩)
          all_goals (simp [h0, h1, h2, h3, h4] at hv; subst hv; go_enter Tryd.func28, Tryd.ntmps28; go_wp2; go_ret; exact ⟨ret_bool (by simp [*]), (Below.refl _ _).alloc (Nat.le_refl _) _⟩)
        all_goals (simp [h0, h1, h2, h3] at hv; subst hv; go_enter Tryd.func28, Tryd.ntmps28; go_wp2; go_ret; exact ⟨ret_bool (by simp [*]), (Below.refl _ _).alloc (Nat.le_refl _) _⟩)
      all_goals (simp [h0, h1, h2] at hv; subst hv; go_enter Tryd.func28, Tryd.ntmps28; go_wp2; go_ret; exact ⟨ret_bool (by simp [*]), (Below.refl _ _).alloc (Nat.le_refl _) _⟩)
    all_goals (simp [h0, h1] at hv; subst hv; go_enter Tryd.func28, Tryd.ntmps28; go_wp2; go_ret; exact ⟨ret_bool (by simp [*]), (Below.refl _ _).alloc (Nat.le_refl _) _⟩)
  all_goals (simp [h0] at hv; subst hv; go_enter Tryd.func28, Tryd.ntmps28; go_wp2; go_ret; exact ⟨ret_bool (by simp [*]), (Below.refl _ _).alloc (Nat.le_refl _) _⟩)

end Go.Proofs.YtphgjfkmnohjlaaDoor
