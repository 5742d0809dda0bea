/-
  The eight symmetries of an image on unbounded integers: products, inverses, sizes and positions, and the laws that tie them.
-/
import Derived.Lib.Hide
import Derived.Test.YthedglfocjljjaaGreatDoorRows
import Derived.Test.YthedglfocjljjaaGreatDoorMga
import Derived.WalkKit
import Derived.WalkSpells
import Derived.Lib.MinMax
import Derived.Deep.QuietTactic
import Derived.BigQuiet
namespace Go.Proofs.YthedglfocjljjaaGreatDoor.Trf

def cl (t : Int) : Int := if 0 ≤ t ∧ t ≤ 7 then t else 0
def vT (t : Int) : Bool := decide (0 ≤ t ∧ t ≤ 7)
def comp8 (a b : Int) : Int :=
  if a < 4 then (if b < 4 then (a + b) % 4 else 4 + (b - a) % 4) else (if b < 4 then 4 + (a + b) % 4 else (b - a) % 4)
def comp (a b : Int) : Int := comp8 (cl a) (cl b)
def inv8 (t : Int) : Int := if t < 4 then (4 - t) % 4 else t
def inv (t : Int) : Int := inv8 (cl t)
def odd (t : Int) : Bool := decide (cl t % 2 = 1)
def siW (t w h : Int) : Int := if odd t then h else w
def siH (t w h : Int) : Int := if odd t then w else h
def posX (t w h x y : Int) : Int :=
  if t = 1 then y else if t = 2 then w - 1 - x else if t = 3 then h - 1 - y else if t = 4 then w - 1 - x else if t = 5 then y else if t = 6 then x else if t = 7 then h - 1 - y else x
def posY (t w h x y : Int) : Int :=
  if t = 1 then w - 1 - x else if t = 2 then h - 1 - y else if t = 3 then x else if t = 4 then y else if t = 5 then x else if t = 6 then h - 1 - y else if t = 7 then w - 1 - x else y

theorem cl_in (t : Int) : 0 ≤ cl t ∧ cl t ≤ 7 := by unfold cl; split <;> omega
theorem cl_eq {t : Int} (h0 : 0 ≤ t) (h1 : t ≤ 7) : cl t = t := by simp [cl, h0, h1]
theorem cl_cl (t : Int) : cl (cl t) = cl t := cl_eq (cl_in t).1 (cl_in t).2
theorem cl_zero : cl 0 = 0 := by decide
theorem eight {t : Int} (h : 0 ≤ t ∧ t ≤ 7) : t = 0 ∨ t = 1 ∨ t = 2 ∨ t = 3 ∨ t = 4 ∨ t = 5 ∨ t = 6 ∨ t = 7 := by omega

theorem comp8_in {a b : Int} (_ : 0 ≤ a ∧ a ≤ 7) (_ : 0 ≤ b ∧ b ≤ 7) : 0 ≤ comp8 a b ∧ comp8 a b ≤ 7 := by
  unfold comp8
  split <;> split <;> omega
theorem comp_in (a b : Int) : 0 ≤ comp a b ∧ comp a b ≤ 7 := comp8_in (cl_in a) (cl_in b)
theorem inv8_in {a : Int} (_ : 0 ≤ a ∧ a ≤ 7) : 0 ≤ inv8 a ∧ inv8 a ≤ 7 := by
  unfold inv8
  split <;> omega
theorem inv_in (a : Int) : 0 ≤ inv a ∧ inv a ≤ 7 := inv8_in (cl_in a)
theorem cl_comp (a b : Int) : cl (comp a b) = comp a b := cl_eq (comp_in a b).1 (comp_in a b).2
theorem cl_inv (a : Int) : cl (inv a) = inv a := cl_eq (inv_in a).1 (inv_in a).2
theorem comp_cl (a b : Int) : comp (cl a) (cl b) = comp a b := by unfold comp; rw [cl_cl, cl_cl]
theorem inv_cl (a : Int) : inv (cl a) = inv a := by unfold inv; rw [cl_cl]

theorem comp_assoc (a b c : Int) : comp (comp a b) c = comp a (comp b c) := by
  unfold comp
  have ha := cl_in a
  have hb := cl_in b
  have hc := cl_in c
  rw [cl_eq (comp8_in ha hb).1 (comp8_in ha hb).2, cl_eq (comp8_in hb hc).1 (comp8_in hb hc).2]
  generalize cl a = a at *
  generalize cl b = b at *
  generalize cl c = c at *
  rcases eight ha with rfl | rfl | rfl | rfl | rfl | rfl | rfl | rfl <;> rcases eight hb with rfl | rfl | rfl | rfl | rfl | rfl | rfl | rfl <;> rcases eight hc with rfl | rfl | rfl | rfl | rfl | rfl | rfl | rfl <;> decide
theorem comp_one (a : Int) : comp a 0 = cl a := by
  unfold comp
  rw [cl_zero]
  have ha := cl_in a
  generalize cl a = a at *
  rcases eight ha with rfl | rfl | rfl | rfl | rfl | rfl | rfl | rfl <;> decide
theorem one_comp (a : Int) : comp 0 a = cl a := by
  unfold comp
  rw [cl_zero]
  have ha := cl_in a
  generalize cl a = a at *
  rcases eight ha with rfl | rfl | rfl | rfl | rfl | rfl | rfl | rfl <;> decide
theorem comp_inv (a : Int) : comp a (inv a) = 0 := by
  unfold comp inv
  have ha := cl_in a
  rw [cl_eq (inv8_in ha).1 (inv8_in ha).2]
  generalize cl a = a at *
  rcases eight ha with rfl | rfl | rfl | rfl | rfl | rfl | rfl | rfl <;> decide
theorem inv_comp (a : Int) : comp (inv a) a = 0 := by
  unfold comp inv
  have ha := cl_in a
  rw [cl_eq (inv8_in ha).1 (inv8_in ha).2]
  generalize cl a = a at *
  rcases eight ha with rfl | rfl | rfl | rfl | rfl | rfl | rfl | rfl <;> decide
theorem inv_only {a u : Int} (h : comp a u = 0) : cl u = inv a := by
  unfold comp at h
  unfold inv
  have ha := cl_in a
  have hu := cl_in u
  generalize cl a = a at *
  generalize cl u = u at *
  rcases eight ha with rfl | rfl | rfl | rfl | rfl | rfl | rfl | rfl <;> rcases eight hu with rfl | rfl | rfl | rfl | rfl | rfl | rfl | rfl <;> first | rfl | (revert h; decide)
theorem inv_prod (a b : Int) : inv (comp a b) = comp (inv b) (inv a) := by
  have h : comp (comp a b) (comp (inv b) (inv a)) = 0 := by
    rw [comp_assoc a b, ← comp_assoc b, comp_inv, one_comp, cl_inv, comp_inv]
  rw [← inv_only h, cl_comp]
theorem inv_inv (a : Int) : inv (inv a) = cl a := by
  rw [← inv_only (inv_comp a)]

theorem odd_comp (a b : Int) : odd (comp a b) = (odd a != odd b) := by
  unfold odd
  rw [cl_comp]
  unfold comp
  have ha := cl_in a
  have hb := cl_in b
  generalize cl a = a at *
  generalize cl b = b at *
  rcases eight ha with rfl | rfl | rfl | rfl | rfl | rfl | rfl | rfl <;> rcases eight hb with rfl | rfl | rfl | rfl | rfl | rfl | rfl | rfl <;> decide
theorem odd_inv (a : Int) : odd (inv a) = odd a := by
  unfold odd
  rw [cl_inv]
  unfold inv
  have ha := cl_in a
  generalize cl a = a at *
  rcases eight ha with rfl | rfl | rfl | rfl | rfl | rfl | rfl | rfl <;> decide

theorem si_comp (a b w h : Int) : siW b (siW a w h) (siH a w h) = siW (comp a b) w h ∧ siH b (siW a w h) (siH a w h) = siH (comp a b) w h := by
  unfold siW siH
  rw [odd_comp]
  cases odd a <;> cases odd b <;> simp
theorem si_inv (a w h : Int) : siW (inv a) (siW a w h) (siH a w h) = w ∧ siH (inv a) (siW a w h) (siH a w h) = h := by
  unfold siW siH
  rw [odd_inv]
  cases odd a <;> simp
theorem si_mul (t w h : Int) : siW t w h * siH t w h = w * h := by
  unfold siW siH
  cases odd t
  · simp
  · simp [Int.mul_comm]
theorem si_cl (t w h : Int) : siW (cl t) w h = siW t w h ∧ siH (cl t) w h = siH t w h := by
  unfold siW siH odd
  rw [cl_cl]
  exact ⟨rfl, rfl⟩

theorem pos_cl (t w h x y : Int) : posX (cl t) w h x y = posX t w h x y ∧ posY (cl t) w h x y = posY t w h x y := by
  by_cases ht : 0 ≤ t ∧ t ≤ 7
  · rw [cl_eq ht.1 ht.2]
    exact ⟨rfl, rfl⟩
  · have h0 : cl t = 0 := by simp only [cl, if_neg ht]
    rw [h0]
    have h1 : t ≠ 1 := by omega
    have h2 : t ≠ 2 := by omega
    have h3 : t ≠ 3 := by omega
    have h4 : t ≠ 4 := by omega
    have h5 : t ≠ 5 := by omega
    have h6 : t ≠ 6 := by omega
    have h7 : t ≠ 7 := by omega
    simp [posX, posY, h1, h2, h3, h4, h5, h6, h7]

theorem pos_comp (a b w h x y : Int) : posX b (siW a w h) (siH a w h) (posX a w h x y) (posY a w h x y) = posX (comp a b) w h x y ∧ posY b (siW a w h) (siH a w h) (posX a w h x y) (posY a w h x y) = posY (comp a b) w h x y := by
  rw [← (pos_cl a w h x y).1, ← (pos_cl a w h x y).2, ← (si_cl a w h).1, ← (si_cl a w h).2, ← (pos_cl b _ _ _ _).1, ← (pos_cl b _ _ _ _).2]
  unfold comp
  have ha := cl_in a
  have hb := cl_in b
  generalize cl a = a at *
  generalize cl b = b at *
  rcases eight ha with rfl | rfl | rfl | rfl | rfl | rfl | rfl | rfl <;> rcases eight hb with rfl | rfl | rfl | rfl | rfl | rfl | rfl | rfl <;> simp [posX, posY, siW, siH, odd, cl, comp8] <;> omega
theorem pos_inv (a w h x y : Int) : posX (inv a) (siW a w h) (siH a w h) (posX a w h x y) (posY a w h x y) = x ∧ posY (inv a) (siW a w h) (siH a w h) (posX a w h x y) (posY a w h x y) = y := by
  have h0 := pos_comp a (inv a) w h x y
  rw [comp_inv] at h0
  exact h0
theorem pos_in (t : Int) {w h x y : Int} (hx : 0 ≤ x ∧ x < w) (hy : 0 ≤ y ∧ y < h) : (0 ≤ posX t w h x y ∧ posX t w h x y < siW t w h) ∧ (0 ≤ posY t w h x y ∧ posY t w h x y < siH t w h) := by
  rw [← (pos_cl t w h x y).1, ← (pos_cl t w h x y).2, ← (si_cl t w h).1, ← (si_cl t w h).2]
  have ht := cl_in t
  generalize cl t = t at *
  rcases eight ht with rfl | rfl | rfl | rfl | rfl | rfl | rfl | rfl <;> simp [posX, posY, siW, siH, odd, cl] <;> omega
theorem si_pos (t : Int) {w h : Int} (hw : 0 < w) (hh : 0 < h) : 0 < siW t w h ∧ 0 < siH t w h := by
  unfold siW siH
  cases odd t <;> simp <;> omega

end Go.Proofs.YthedglfocjljjaaGreatDoor.Trf
namespace Go.Proofs.YthedglfocjljjaaGreatDoor.Trf
open Go.RowKit

theorem bcell {W w1 : World} (hb : Below W.heap.size W w1) : (∀ b o, b < W.heap.size → w1.cell? ⟨b, o, none⟩ = W.cell? ⟨b, o, none⟩) ∧ (∀ b o, b < W.heap.size → w1.frozen? ⟨b, o, none⟩ = W.frozen? ⟨b, o, none⟩) :=
  ⟨fun b o h => hb.cell (p := ⟨b, o, none⟩) h, fun b o h => hb.frozen (p := ⟨b, o, none⟩) h⟩

theorem ret_bool {a b : Bool} (h : a = b) : Ending.returned (.bool a) = .returned (.bool b) := by rw [h]
set_option maxRecDepth 100000 in
set_option maxHeartbeats 1000000 in
theorem near_any (n lo hi : Int) (w : World) : Calls Tryz.prog 159 #[.int .i64 n, .int .i64 lo, .int .i64 hi] w fun e w' => e = .returned (.int .i64 (min (max n lo) hi)) ∧ w = w' := by
  go_enter Tryz.func159, Tryz.ntmps159
  go_wp2
  go_ret
  exact ⟨rfl, rfl⟩

set_option maxRecDepth 100000 in
set_option maxHeartbeats 1000000 in
theorem okc_any (n : Int) (w : World) : Calls Tryz.prog 139 #[.int .i64 n] w fun e w' => e = .returned (.bool (okC n)) ∧ w = w' := by
  rw [← okC_near]
  go_enter Tryz.func139, Tryz.ntmps139
  go_wp2_with fail
  refine (near_any _ _ _ _).mono ?_
  rintro e w' ⟨rfl, rfl⟩
  go_wp2
  go_ret
  exact ⟨rfl, rfl⟩

set_option maxRecDepth 100000 in
set_option maxHeartbeats 1000000 in
theorem valid_any (r : R) (w : World) : Calls Tryz.prog 133 #[.agg #[.int .i64 r.x0, .int .i64 r.y0, .int .i64 r.x1, .int .i64 r.y1]] w fun e w' => e = .returned (.bool (vldB r)) ∧ Below w.heap.size w w' := by
  obtain ⟨v, hv⟩ : ∃ v, vldB r = v := ⟨_, rfl⟩
  rw [hv]
  unfold vldB at hv
  cases h0 : okC r.x0 <;> cases h1 : okC r.y0 <;> cases h2 : okC r.x1 <;> cases h3 : okC r.y1 <;> (rw [h0, h1, h2, h3] at hv; simp at hv; subst hv)
  all_goals
    go_enter Tryz.func133, Tryz.ntmps133
    go_wp2_with (with_reducible refine (okc_any _ _).mono ?_; rintro e w' ⟨rfl, rfl⟩)
    go_ret
    exact ⟨rfl, (Below.refl _ _).alloc (Nat.le_refl _) _⟩

set_option maxRecDepth 100000 in
set_option maxHeartbeats 1000000 in
theorem empty_any (r : R) (w : World) : Calls Tryz.prog 124 #[.agg #[.int .i64 r.x0, .int .i64 r.y0, .int .i64 r.x1, .int .i64 r.y1]] w fun e w' => e = .returned (.bool (empB r)) ∧ Below w.heap.size w w' := by
  obtain ⟨v, hv⟩ : ∃ v, empB r = v := ⟨_, rfl⟩
  rw [hv]
  unfold empB at hv
  cases h0 : vldB r <;> by_cases h1 : r.x1 ≤ r.x0 <;> by_cases h2 : r.y1 ≤ r.y0 <;> (rw [h0] at hv; simp [h1, h2] at hv; subst hv)
  all_goals
    go_enter Tryz.func124, Tryz.ntmps124
    go_wp2_with fail
    refine (valid_any _ _).mono ?_
    rintro e w1 ⟨rfl, hb⟩
    obtain ⟨hc, hf⟩ := bcell hb
    go_wp2
    go_ret
    exact ⟨ret_bool (by clear hc hf hb; simp [*]), ((Below.refl _ _).alloc (Nat.le_refl _) _).trans (hb.mono (by simp))⟩

theorem below_set2 {B k : Nat} {w w1 : World} (h : Below B w w1) (hb : B ≤ k) {x0 x1 : Value} :
    Below B w ((w1.setCell ⟨k, 0, none⟩ x0).setCell ⟨k, 1, none⟩ x1) :=
  (h.setCell (p := ⟨k, 0, none⟩) hb x0).setCell (p := ⟨k, 1, none⟩) hb x1

set_option maxRecDepth 100000 in
set_option maxHeartbeats 1000000 in
theorem validt_any (t : Int) (w : World) : Calls Tryz.prog 37 #[.int .i64 t] w fun e w' => e = .returned (.bool (vT t)) ∧ w = w' := by
  unfold vT
  by_cases h0 : 0 ≤ t <;> by_cases h1 : t ≤ 7
  · have h2 : t < 8 := by omega
    simp only [h0, h1, and_true, decide_true]
    go_enter Tryz.func37, Tryz.ntmps37
    go_wp2
    go_ret
    exact ⟨rfl, rfl⟩
  · have h2 : ¬ t < 8 := by omega
    simp only [h0, h1, and_false, decide_false]
    go_enter Tryz.func37, Tryz.ntmps37
    go_wp2
    go_ret
    exact ⟨rfl, rfl⟩
  all_goals
    simp only [h0, h1, and_true, and_false, decide_false]
    go_enter Tryz.func37, Tryz.ntmps37
    go_wp2
    go_ret
    exact ⟨rfl, rfl⟩

set_option maxRecDepth 100000 in
set_option maxHeartbeats 1000000 in
theorem rvalidt_any (t : Int) (w : World) : Calls Tryz.prog 41 #[.int .i64 t] w fun e w' => e = .returned (.bool (vT t)) ∧ w = w' := by
  unfold vT
  by_cases h0 : 0 ≤ t <;> by_cases h1 : t ≤ 7
  all_goals
    simp only [h0, h1, and_true, and_false, decide_true, decide_false]
    go_enter Tryz.func41, Tryz.ntmps41
    go_wp2
    go_ret
    exact ⟨rfl, rfl⟩

theorem vT_cl {t : Int} (h : vT t = true) : cl t = t := by
  unfold vT at h
  have := of_decide_eq_true h
  exact cl_eq this.1 this.2
theorem vT_no {t : Int} (h : vT t = false) : cl t = 0 := by
  unfold vT at h
  have := of_decide_eq_false h
  simp only [cl, if_neg this]

set_option maxRecDepth 100000 in
set_option maxHeartbeats 1000000 in
theorem known_any (t : Int) (w : World) : Calls Tryz.prog 102 #[.int .i64 t] w fun e w' => e = .returned (.int .i64 (cl t)) ∧ w = w' := by
  have C := fun W => Lib.hid (validt_any t W)
  cases h : vT t
  · rw [vT_no h]
    rw [h] at C
    clear h
    go_enter Tryz.func102, Tryz.ntmps102
    go_wp2_with fail
    refine (C _).out.mono ?_
    rintro e w' ⟨rfl, rfl⟩
    go_wp2
    go_ret
    exact ⟨rfl, rfl⟩
  · rw [vT_cl h]
    rw [h] at C
    clear h
    go_enter Tryz.func102, Tryz.ntmps102
    go_wp2_with fail
    refine (C _).out.mono ?_
    rintro e w' ⟨rfl, rfl⟩
    go_wp2
    go_ret
    exact ⟨rfl, rfl⟩

set_option maxRecDepth 100000 in
set_option maxHeartbeats 1000000 in
theorem rclean_any (t : Int) (w : World) : Calls Tryz.prog 80 #[.int .i64 t] w fun e w' => e = .returned (.int .i64 (cl t)) ∧ w = w' := by
  have C := fun W => Lib.hid (rvalidt_any t W)
  cases h : vT t
  · rw [vT_no h]
    rw [h] at C
    clear h
    go_enter Tryz.func80, Tryz.ntmps80
    go_wp2_with fail
    refine (C _).out.mono ?_
    rintro e w' ⟨rfl, rfl⟩
    go_wp2
    go_ret
    exact ⟨rfl, rfl⟩
  · rw [vT_cl h]
    rw [h] at C
    clear h
    go_enter Tryz.func80, Tryz.ntmps80
    go_wp2_with fail
    refine (C _).out.mono ?_
    rintro e w' ⟨rfl, rfl⟩
    go_wp2
    go_ret
    exact ⟨rfl, rfl⟩

theorem odd_rem (t : Int) : (cl t).tmod 2 = if odd t then 1 else 0 := by
  have h := cl_in t
  unfold odd
  generalize cl t = a at *
  rcases eight h with rfl | rfl | rfl | rfl | rfl | rfl | rfl | rfl <;> decide

set_option maxRecDepth 100000 in
set_option maxHeartbeats 1000000 in
theorem size_any (t a b : Int) (w : World) : Calls Tryz.prog 79 #[.int .i64 t, .int .i64 a, .int .i64 b] w fun e w' => e = .returned (.tuple #[.int .i64 (siW t a b), .int .i64 (siH t a b)]) ∧ w = w' := by
  have C := fun W => Lib.hid (known_any t W)
  have hr := odd_rem t
  have hc := cl_in t
  unfold siW siH
  generalize cl t = c at *
  cases h : odd t
  all_goals
    rw [h] at hr
    simp only [Bool.false_eq_true, if_true, if_false] at hr ⊢
    clear h
    go_enter Tryz.func79, Tryz.ntmps79
    go_wp2_with fail
    refine (C _).out.mono ?_
    rintro e w' ⟨rfl, rfl⟩
    go_wp2
    go_ret2
    exact ⟨rfl, rfl⟩

set_option maxRecDepth 100000 in
set_option maxHeartbeats 1000000 in
theorem rsize_any (t a b : Int) (w : World) : Calls Tryz.prog 51 #[.int .i64 t, .int .i64 a, .int .i64 b] w fun e w' => e = .returned (.tuple #[.int .i64 (siW t a b), .int .i64 (siH t a b)]) ∧ w = w' := by
  have C := fun W => Lib.hid (rclean_any t W)
  have hr := odd_rem t
  have hc := cl_in t
  unfold siW siH
  generalize cl t = c at *
  cases h : odd t
  all_goals
    rw [h] at hr
    simp only [Bool.false_eq_true, if_true, if_false] at hr ⊢
    clear h
    go_enter Tryz.func51, Tryz.ntmps51
    go_wp2_with fail
    refine (C _).out.mono ?_
    rintro e w' ⟨rfl, rfl⟩
    go_wp2
    go_ret2
    exact ⟨rfl, rfl⟩

set_option maxRecDepth 100000 in
set_option maxHeartbeats 1000000 in
theorem side_any (n : Int) (w : World) : Calls Tryz.prog 103 #[.int .i64 n] w fun e w' => e = .returned (.bool (decide (1 ≤ n ∧ n ≤ 256))) ∧ w = w' := by
  by_cases h0 : 1 ≤ n <;> by_cases h1 : n ≤ 256
  all_goals
    simp only [h0, h1, and_true, and_false, decide_true, decide_false]
    go_enter Tryz.func103, Tryz.ntmps103
    go_wp2
    go_ret
    exact ⟨rfl, rfl⟩

set_option maxRecDepth 100000 in
set_option maxHeartbeats 1000000 in
theorem flip_any (a x y : Int) (hx : 0 ≤ x ∧ x < a) (ha : a ≤ 16384) (w : World) : Calls Tryz.prog 105 #[.int .i64 a, .agg #[.int .i64 x, .int .i64 y]] w fun e w' => e = .returned (.agg #[.int .i64 (a - 1 - x), .int .i64 y]) ∧ Below w.heap.size w w' := by
  have t0 : IntKind.i64.wrap (a - 1) = a - 1 := IntWalk.i64_in _ (by omega)
  have t1 : IntKind.i64.wrap (a - 1 - x) = a - 1 - x := IntWalk.i64_in _ (by omega)
  go_enter Tryz.func105, Tryz.ntmps105
  go_wp2
  refine bodyPost_ret (v := .agg #[.int .i64 (a - 1 - x), .int .i64 y]) (by simp [results, Tryz.results105, go_sem]) rfl ⟨rfl, ?_⟩
  exact ((Below.refl _ _).alloc (Nat.le_refl _) _).alloc (Nat.le_of_lt (by rw [World.size_alloc]; exact Nat.lt_succ_self _)) _

set_option maxRecDepth 100000 in
set_option maxHeartbeats 1000000 in
theorem turn_any (a x y : Int) (hx : 0 ≤ x ∧ x < a) (ha : a ≤ 16384) (w : World) : Calls Tryz.prog 106 #[.int .i64 a, .agg #[.int .i64 x, .int .i64 y]] w fun e w' => e = .returned (.agg #[.int .i64 y, .int .i64 (a - 1 - x)]) ∧ Below w.heap.size w w' := by
  have t0 : IntKind.i64.wrap (a - 1) = a - 1 := IntWalk.i64_in _ (by omega)
  have t1 : IntKind.i64.wrap (a - 1 - x) = a - 1 - x := IntWalk.i64_in _ (by omega)
  go_enter Tryz.func106, Tryz.ntmps106
  go_wp2
  refine bodyPost_ret (v := .agg #[.int .i64 y, .int .i64 (a - 1 - x)]) (by simp [results, Tryz.results106, go_sem]) rfl ⟨rfl, ?_⟩
  exact ((Below.refl _ _).alloc (Nat.le_refl _) _).alloc (Nat.le_of_lt (by rw [World.size_alloc]; exact Nat.lt_succ_self _)) _

end Go.Proofs.YthedglfocjljjaaGreatDoor.Trf
namespace Go.Proofs.YthedglfocjljjaaGreatDoor.Trf

structure Px where
  r : Int
  g : Int
  b : Int
  a : Int

def zeroPx : Px := ⟨0, 0, 0, 0⟩
def okPx (p : Px) : Bool := decide (p.r ≤ p.a) && decide (p.g ≤ p.a) && decide (p.b ≤ p.a)
def sig (t w h : Int) (k : Nat) : Nat := (posY t w h ((k : Int) % w) ((k : Int) / w) * siW t w h + posX t w h ((k : Int) % w) ((k : Int) / w)).toNat
def mkI (s : Nat → Nat) (l : List Px) : Nat → List Px
  | 0 => List.replicate l.length zeroPx
  | k + 1 => (mkI s l k).set (s k) (l.getD k zeroPx)
def imgP (t w h : Int) (l : List Px) : List Px := mkI (sig t w h) l l.length
def vBuf (w h : Int) (l : List Px) : Bool := decide (1 ≤ w ∧ w ≤ 256) && decide (1 ≤ h ∧ h ≤ 256) && decide ((l.length : Int) = w * h) && l.all okPx

theorem mkI_len (s : Nat → Nat) (l : List Px) : ∀ k, (mkI s l k).length = l.length
  | 0 => by simp [mkI]
  | k + 1 => by rw [mkI, List.length_set, mkI_len s l k]

theorem mkI_ok (s : Nat → Nat) (l : List Px) (h : l.all okPx = true) : ∀ k, (mkI s l k).all okPx = true
  | 0 => by
    rw [mkI, List.all_eq_true]
    intro x hx
    rw [(List.mem_replicate.1 hx).2]
    rfl
  | k + 1 => by
    have ih := mkI_ok s l h k
    rw [List.all_eq_true] at ih h ⊢
    intro x hx
    rw [mkI] at hx
    rcases List.mem_or_eq_of_mem_set hx with hm | rfl
    · exact ih x hm
    · rw [List.getD_eq_getElem?_getD]
      cases hk : l[k]? with
      | none => rfl
      | some y => exact h y (List.mem_of_getElem? hk)

theorem mkI_get (s : Nat → Nat) (l : List Px) (hin : ∀ i, i < l.length → s i < l.length) (hinj : ∀ i j, i < l.length → j < l.length → s i = s j → i = j) :
    ∀ k, k ≤ l.length → ∀ i, i < k → (mkI s l k)[s i]? = l[i]?
  | 0, _, i, hi => by omega
  | k + 1, hk, i, hi => by
    rw [mkI]
    by_cases e : i = k
    · subst e
      rw [List.getElem?_set_self (by rw [mkI_len]; exact hin i (by omega)), List.getD_eq_getElem?_getD, List.getElem?_eq_getElem (by omega)]
      rfl
    · have hne : s k ≠ s i := fun h => e (hinj k i (by omega) (by omega) h).symm
      rw [List.getElem?_set_ne hne]
      exact mkI_get s l hin hinj k (by omega) i (by omega)

section
variable {w h : Int} {n : Nat}

theorem at_in {k : Nat} (hw : 0 < w) (hn : (n : Int) = w * h) (hk : k < n) : (0 ≤ (k : Int) % w ∧ (k : Int) % w < w) ∧ (0 ≤ (k : Int) / w ∧ (k : Int) / w < h) := by
  refine ⟨⟨Int.emod_nonneg _ (by omega), Int.emod_lt_of_pos _ hw⟩, Int.ediv_nonneg (by omega) (by omega), ?_⟩
  refine Int.ediv_lt_of_lt_mul hw ?_
  rw [Int.mul_comm]
  omega

theorem row_lt {x y : Int} (hx : 0 ≤ x ∧ x < w) (hy : 0 ≤ y ∧ y < h) : 0 ≤ y * w + x ∧ y * w + x < w * h := by
  have h0 : 0 ≤ y * w := Int.mul_nonneg hy.1 (by omega)
  have h1 : (y + 1) * w ≤ h * w := Int.mul_le_mul_of_nonneg_right (by omega) (by omega)
  rw [Int.add_mul, Int.one_mul, Int.mul_comm h w] at h1
  omega

theorem row_div {x y : Int} (hx : 0 ≤ x ∧ x < w) : (y * w + x) % w = x ∧ (y * w + x) / w = y := by
  constructor
  · rw [Int.add_comm, Int.add_mul_emod_self_right, Int.emod_eq_of_lt hx.1 hx.2]
  · rw [Int.add_comm, Int.add_mul_ediv_right _ _ (by omega), Int.ediv_eq_zero_of_lt hx.1 hx.2, Int.zero_add]

theorem sig_int (t : Int) {k : Nat} (hw : 0 < w) (hn : (n : Int) = w * h) (hk : k < n) :
    ((sig t w h k : Nat) : Int) = posY t w h ((k : Int) % w) ((k : Int) / w) * siW t w h + posX t w h ((k : Int) % w) ((k : Int) / w) := by
  obtain ⟨hx, hy⟩ := at_in hw hn hk
  obtain ⟨px, py⟩ := pos_in t hx hy
  exact Int.toNat_of_nonneg (row_lt px py).1

theorem sig_lt (t : Int) {k : Nat} (hw : 0 < w) (hn : (n : Int) = w * h) (hk : k < n) : sig t w h k < n := by
  obtain ⟨hx, hy⟩ := at_in hw hn hk
  obtain ⟨px, py⟩ := pos_in t hx hy
  have h0 := sig_int t hw hn hk
  have h1 := (row_lt px py).2
  rw [si_mul] at h1
  omega

theorem sig_comp (a b : Int) {k : Nat} (hw : 0 < w) (hn : (n : Int) = w * h) (hk : k < n) : sig b (siW a w h) (siH a w h) (sig a w h k) = sig (comp a b) w h k := by
  obtain ⟨hx, hy⟩ := at_in hw hn hk
  obtain ⟨px, _⟩ := pos_in a hx hy
  have h0 := sig_int a hw hn hk
  obtain ⟨e1, e2⟩ := row_div (y := posY a w h ((k : Int) % w) ((k : Int) / w)) px
  generalize sig a w h k = m at *
  conv => lhs; unfold sig
  rw [h0, e1, e2, (si_comp a b w h).1, (pos_comp a b w h _ _).1, (pos_comp a b w h _ _).2]
  rfl

theorem sig_zero {k : Nat} : sig 0 w h k = k := by
  have e : sig 0 w h k = ((k : Int) / w * w + (k : Int) % w).toNat := rfl
  rw [e, Int.mul_comm, Int.mul_ediv_add_emod, Int.toNat_natCast]

theorem sig_inv (a : Int) {k : Nat} (hw : 0 < w) (hn : (n : Int) = w * h) (hk : k < n) : sig (inv a) (siW a w h) (siH a w h) (sig a w h k) = k := by
  rw [sig_comp a (inv a) hw hn hk, comp_inv, sig_zero]

theorem sig_onto (a : Int) {j : Nat} (hw : 0 < w) (hh : 0 < h) (hn : (n : Int) = w * h) (hj : j < n) : ∃ i, i < n ∧ sig a w h i = j := by
  have hp := si_pos a hw hh
  have hn' : (n : Int) = siW a w h * siH a w h := by rw [si_mul, hn]
  refine ⟨sig (inv a) (siW a w h) (siH a w h) j, sig_lt _ hp.1 hn' hj, ?_⟩
  have h0 := sig_inv (inv a) hp.1 hn' hj
  rw [inv_inv, (si_inv a w h).1, (si_inv a w h).2] at h0
  rw [← h0]
  conv => rhs; unfold sig
  rw [(pos_cl a w h _ _).1, (pos_cl a w h _ _).2, (si_cl a w h).1]
  rw [h0]
  rfl

end

theorem img_len (t w h : Int) (l : List Px) : (imgP t w h l).length = l.length := mkI_len _ _ _

theorem img_get (t : Int) {w h : Int} {l : List Px} (hw : 0 < w) (hn : (l.length : Int) = w * h) {i : Nat} (hi : i < l.length) : (imgP t w h l)[sig t w h i]? = l[i]? :=
  mkI_get _ l (fun _ hk => sig_lt t hw hn hk) (fun i j h1 h2 e => by
    rw [← sig_inv t hw hn h1, ← sig_inv t hw hn h2, e]) l.length (Nat.le_refl _) i hi

theorem img_ext {l m : List Px} {t w h : Int} (hw : 0 < w) (hh : 0 < h) (hl : (l.length : Int) = w * h) (hlm : m.length = l.length) (H : ∀ i, i < l.length → l[sig t w h i]? = m[sig t w h i]?) : l = m := by
  refine List.ext_getElem? fun j => ?_
  rcases Nat.lt_or_ge j l.length with hj | hj
  · obtain ⟨i, hi, rfl⟩ := sig_onto t hw hh hl hj
    exact H i hi
  · rw [List.getElem?_eq_none hj, List.getElem?_eq_none (by omega)]

theorem img_comp (a b : Int) {w h : Int} {l : List Px} (hw : 0 < w) (hh : 0 < h) (hn : (l.length : Int) = w * h) :
    imgP b (siW a w h) (siH a w h) (imgP a w h l) = imgP (comp a b) w h l := by
  have hp := si_pos a hw hh
  have hn' : ((imgP a w h l).length : Int) = siW a w h * siH a w h := by rw [si_mul, img_len, hn]
  refine img_ext (t := comp a b) hw hh (by rw [img_len, img_len, hn]) (by rw [img_len, img_len, img_len]) fun i hi => ?_
  rw [img_len, img_len] at hi
  rw [img_get (comp a b) hw hn hi, ← sig_comp a b hw hn hi, img_get b hp.1 hn' (by rw [img_len]; exact sig_lt a hw hn hi), img_get a hw hn hi]

theorem img_zero {w h : Int} {l : List Px} (hw : 0 < w) (hh : 0 < h) (hn : (l.length : Int) = w * h) : imgP 0 w h l = l := by
  refine img_ext (t := 0) hw hh (by rw [img_len, hn]) (by rw [img_len]) fun i hi => ?_
  rw [img_len] at hi
  rw [img_get 0 hw hn hi, sig_zero]

theorem img_inv (a : Int) {w h : Int} {l : List Px} (hw : 0 < w) (hh : 0 < h) (hn : (l.length : Int) = w * h) : imgP (inv a) (siW a w h) (siH a w h) (imgP a w h l) = l := by
  rw [img_comp a (inv a) hw hh hn, comp_inv, img_zero hw hh hn]

theorem vBuf_iff {w h : Int} {l : List Px} : vBuf w h l = true ↔ (1 ≤ w ∧ w ≤ 256) ∧ (1 ≤ h ∧ h ≤ 256) ∧ (l.length : Int) = w * h ∧ l.all okPx = true := by
  simp only [vBuf, Bool.and_eq_true, decide_eq_true_eq, and_assoc]

theorem img_valid (t : Int) {w h : Int} {l : List Px} (hv : vBuf w h l = true) : vBuf (siW t w h) (siH t w h) (imgP t w h l) = true := by
  obtain ⟨h0, h1, h2, h3⟩ := vBuf_iff.1 hv
  refine vBuf_iff.2 ⟨?_, ?_, by rw [img_len, h2, si_mul], mkI_ok _ _ h3 _⟩
  · unfold siW; split <;> assumption
  · unfold siH; split <;> assumption

end Go.Proofs.YthedglfocjljjaaGreatDoor.Trf
namespace Go.Proofs.YthedglfocjljjaaGreatDoor.Trf
open Go.RowKit

def Pix (a b x y : Int) : Prop := ((0 ≤ x ∧ x < a) ∧ (0 ≤ y ∧ y < b)) ∧ a ≤ 16384 ∧ b ≤ 16384

theorem Pix.image {a b x y : Int} (t : Int) (h : Pix a b x y) : Pix (siW t a b) (siH t a b) (posX t a b x y) (posY t a b x y) := by
  refine ⟨pos_in t h.1.1 h.1.2, ?_⟩
  have h2 := h.2
  unfold siW siH
  cases odd t <;> simp <;> omega

theorem below_drewN {B : Nat} {w w1 : World} (h : Below B w w1) : ∀ n, Below B w (w1.drewN n)
  | 0 => h
  | n + 1 => (below_drewN h n).drew

theorem posn_ne {t : Int} (h : ¬ (1 ≤ t ∧ t ≤ 7)) (a b x y : Int) : posX t a b x y = x ∧ posY t a b x y = y := by
  have h1 : t ≠ 1 := by omega
  have h2 : t ≠ 2 := by omega
  have h3 : t ≠ 3 := by omega
  have h4 : t ≠ 4 := by omega
  have h5 : t ≠ 5 := by omega
  have h6 : t ≠ 6 := by omega
  have h7 : t ≠ 7 := by omega
  simp [posX, posY, h1, h2, h3, h4, h5, h6, h7]

set_option maxRecDepth 100000 in
set_option maxHeartbeats 4000000 in
theorem position_any (t a b x y : Int) (h : Pix a b x y) (w : World) : Calls Tryz.prog 82 #[.int .i64 t, .int .i64 a, .int .i64 b, .agg #[.int .i64 x, .int .i64 y]] w fun e w' => e = .returned (.agg #[.int .i64 (posX t a b x y), .int .i64 (posY t a b x y)]) ∧ Below w.heap.size w w' := by
  obtain ⟨⟨hx, hy⟩, ha, hb⟩ := h
  have t0 : IntKind.i64.wrap (a - 1) = a - 1 := IntWalk.i64_in _ (by omega)
  have t1 : IntKind.i64.wrap (a - 1 - x) = a - 1 - x := IntWalk.i64_in _ (by omega)
  have t2 : IntKind.i64.wrap (b - 1) = b - 1 := IntWalk.i64_in _ (by omega)
  have t3 : IntKind.i64.wrap (b - 1 - y) = b - 1 - y := IntWalk.i64_in _ (by omega)
  have HB : Below w.heap.size w ((w.alloc (.cells #[.int .i64 x, .int .i64 y] 25)).alloc (.cells #[.int .i64 0, .int .i64 0] 25)) := ((Below.refl _ _).alloc (Nat.le_refl _) _).alloc (Nat.le_of_lt (by rw [World.size_alloc]; exact Nat.lt_succ_self _)) _
  replace HB := Lib.hid HB
  by_cases ht : 1 ≤ t ∧ t ≤ 7
  · obtain ⟨X, hX⟩ : ∃ X, posX t a b x y = X := ⟨_, rfl⟩
    obtain ⟨Y, hY⟩ : ∃ Y, posY t a b x y = Y := ⟨_, rfl⟩
    rw [hX, hY]
    obtain rfl | rfl | rfl | rfl | rfl | rfl | rfl : t = 1 ∨ t = 2 ∨ t = 3 ∨ t = 4 ∨ t = 5 ∨ t = 6 ∨ t = 7 := by omega
    all_goals
      simp [posX, posY] at hX hY
      subst hX hY
      clear ht
      go_enter Tryz.func82, Tryz.ntmps82
      go_wp2_with fail
      go_quiet (fail)
      go_wp2_with fail
      refine bodyPost_ret (v := .agg #[.int .i64 _, .int .i64 _]) (by simp [results, Tryz.results82, go_sem]) rfl ⟨rfl, ?_⟩
      exact below_set2 (below_drewN HB.out _) (by simp)
  · obtain ⟨e0, e1⟩ := posn_ne ht a b x y
    rw [e0, e1]
    clear e0 e1
    have h1 : ¬ t = 1 := by omega
    have h2 : ¬ t = 2 := by omega
    have h3 : ¬ t = 3 := by omega
    have h4 : ¬ t = 4 := by omega
    have h5 : ¬ t = 5 := by omega
    have h6 : ¬ t = 6 := by omega
    have h7 : ¬ t = 7 := by omega
    clear ht
    go_enter Tryz.func82, Tryz.ntmps82
    go_wp2_with fail
    go_quiet (fail)
    go_wp2_with fail
    refine bodyPost_ret (v := .agg #[.int .i64 x, .int .i64 y]) (by simp [results, Tryz.results82, go_sem]) rfl ⟨rfl, ?_⟩
    exact below_set2 (below_drewN HB.out _) (by simp)

theorem Below.next {w w1 w2 : World} (h : Below w.heap.size w w1) (hb : Below w1.heap.size w1 w2) : Below w.heap.size w w2 := h.trans (hb.mono h.size)

def Two (W : World) (k : Nat) (x0 x1 : Value) : Prop := W.cell? ⟨k, 0, none⟩ = some x0 ∧ W.cell? ⟨k, 1, none⟩ = some x1 ∧ ∀ i, W.frozen? ⟨k, i, none⟩ = false

def set2 (W : World) (k : Nat) (x0 x1 : Value) : World := (W.setCell ⟨k, 0, none⟩ x0).setCell ⟨k, 1, none⟩ x1

theorem Two.keep {W w1 : World} {B k : Nat} {x0 x1 : Value} (h : Two W k x0 x1) (hb : Below B W w1) (hk : k < B) : Two w1 k x0 x1 :=
  ⟨(hb.cell (p := ⟨k, 0, none⟩) hk).trans h.1, (hb.cell (p := ⟨k, 1, none⟩) hk).trans h.2.1, fun i => (hb.frozen (p := ⟨k, i, none⟩) hk).trans (h.2.2 i)⟩
theorem Two.set {W : World} {k : Nat} {x0 x1 y0 y1 : Value} (h : Two W k x0 x1) : Two (set2 W k y0 y1) k y0 y1 := by
  obtain ⟨h0, h1, h2⟩ := h
  unfold Two set2
  simp [go_sem, h0, h1, h2]
theorem Two.far {W : World} {k j : Nat} {x0 x1 y0 y1 : Value} (h : Two W k x0 x1) (hne : k ≠ j) : Two (set2 W j y0 y1) k x0 x1 := by
  obtain ⟨h0, h1, h2⟩ := h
  unfold Two set2
  simp [go_sem, h0, h1, h2]
theorem Two.new (w : World) (x0 x1 : Value) (t : TypeId) : Two (w.alloc (.cells #[x0, x1] t)) w.heap.size x0 x1 := by
  unfold Two
  simp [go_sem]
theorem Two.alloc {w : World} {k : Nat} {x0 x1 : Value} (h : Two w k x0 x1) (hk : k < w.heap.size) (o : Obj) : Two (w.alloc o) k x0 x1 :=
  h.keep ((Below.refl _ _).alloc (Nat.le_refl _) o) hk
theorem Two.drew {w : World} {k : Nat} {x0 x1 : Value} (h : Two w k x0 x1) (n : Nat) : Two (w.drewN n) k x0 x1 := h.keep (B := k + 1) (below_drewN (Below.refl _ _) n) (Nat.lt_succ_self _)
theorem set2_size (W : World) (k : Nat) (x0 x1 : Value) : (set2 W k x0 x1).heap.size = W.heap.size := by simp [set2]

theorem turn_step {s : Int} {i : Nat} (hs : s = 0 ∨ s = 4) (hi : i < 3) (a b x y : Int) : siW (s + ((i + 1 : Nat) : Int)) a b = siH (s + (i : Int)) a b ∧ siH (s + ((i + 1 : Nat) : Int)) a b = siW (s + (i : Int)) a b ∧
    posX (s + ((i + 1 : Nat) : Int)) a b x y = posY (s + (i : Int)) a b x y ∧ posY (s + ((i + 1 : Nat) : Int)) a b x y = siW (s + (i : Int)) a b - 1 - posX (s + (i : Int)) a b x y := by
  rcases hs with rfl | rfl <;> obtain rfl | rfl | rfl : i = 0 ∨ i = 1 ∨ i = 2 := by omega
  all_goals
    simp [siW, siH, odd, cl, posX, posY]
    try omega

def PlR (w : World) (s : Int) (r : Nat) (a b x y : Int) (s1 s2 s9 : Value) (wr : World) : Prop :=
  ∃ i : Nat, i ≤ r ∧ s9 = .int .i64 (i : Int) ∧ s1 = .int .i64 (siW (s + (i : Int)) a b) ∧ s2 = .int .i64 (siH (s + (i : Int)) a b) ∧
    Two wr w.heap.size (.int .i64 (posX (s + (i : Int)) a b x y)) (.int .i64 (posY (s + (i : Int)) a b x y)) ∧ Two wr (w.heap.size + 1) (.int .i64 0) (.int .i64 0) ∧ Below w.heap.size w wr ∧ w.heap.size + 1 < wr.heap.size

def left3 (r : Nat) (v : Value) : Nat := r - (RowKit.intOf v).toNat

set_option maxRecDepth 100000 in
set_option maxHeartbeats 4000000 in
theorem place_any (t a b x y : Int) (ht : 0 ≤ t ∧ t ≤ 7) (h : Pix a b x y) (w : World) : Calls Tryz.prog 89 #[.int .i64 t, .int .i64 a, .int .i64 b, .agg #[.int .i64 x, .int .i64 y]] w fun e w' => e = .returned (.agg #[.int .i64 (posX t a b x y), .int .i64 (posY t a b x y)]) ∧ Below w.heap.size w w' := by
  obtain ⟨s, r, hs, hr, rfl⟩ : ∃ (s : Int) (r : Nat), (s = 0 ∨ s = 4) ∧ r ≤ 3 ∧ t = s + (r : Int) := by
    by_cases h4 : 4 ≤ t
    · exact ⟨4, (t - 4).toNat, .inr rfl, by omega, by omega⟩
    · exact ⟨0, t.toNat, .inl rfl, by omega, by omega⟩
  have hm : (s + (r : Int)).tmod 4 = r := by
    rcases hs with rfl | rfl <;> obtain rfl | rfl | rfl | rfl : r = 0 ∨ r = 1 ∨ r = 2 ∨ r = 3 := by omega
    all_goals decide
  have HP := Lib.hid h
  obtain ⟨hp, ha, hb⟩ := h
  have HB := Lib.hid (((Below.refl w.heap.size w).alloc (Nat.le_refl _) (.cells #[.int .i64 x, .int .i64 y] 25)).alloc (Nat.le_of_lt (by rw [World.size_alloc]; exact Nat.lt_succ_self _)) (.cells #[.int .i64 0, .int .i64 0] 25))
  have T0 := Lib.hid ((Two.new w (.int .i64 x) (.int .i64 y) 25).alloc (by rw [World.size_alloc]; exact Nat.lt_succ_self _) (.cells #[.int .i64 0, .int .i64 0] 25))
  have T1 := Two.new (w.alloc (.cells #[.int .i64 x, .int .i64 y] 25)) (.int .i64 0) (.int .i64 0) 25
  rw [World.size_alloc] at T1
  replace T1 := Lib.hid T1
  have C1 := fun W => Lib.hid (flip_any a x y hp.1 ha W)
  have HS := Lib.hid hs
  generalize htt : s + (r : Int) = t at *
  have HT := Lib.hid htt
  clear htt hp
  rcases hs with hs | hs
  · have h4 : ¬ 4 ≤ t := by have := HT.out; omega
    clear hs
    go_enter Tryz.func89, Tryz.ntmps89
    go_wp2_with fail
    go_loopw [1, 2, 9] (fun s1 s2 s9 wr => PlR w s r a b x y s1 s2 s9 wr) (fun _ _ s9 _ => left3 r s9)
    case atStart =>
      have hs0 : s = 0 := by
        rcases HS.out with e | e
        · exact e
        · exfalso; have := HT.out; omega
      subst hs0
      refine ⟨0, by omega, rfl, rfl, rfl, T0.out, T1.out, HB.out, by simp⟩
    case round =>
      obtain ⟨i, hi, rfl, rfl, rfl, A0, A1, A2, A3⟩ := hrel
      by_cases hlt : i < r
      · have q0 : (i : Int) < r := by omega
        have hpi := Pix.image (s + (i : Int)) HP.out
        obtain ⟨e1, e2, e3, e4⟩ := turn_step HS.out (i := i) (by omega) a b x y
        have C2 := fun W => Lib.hid (turn_any (siW (s + (i : Int)) a b) (posX (s + (i : Int)) a b x y) (posY (s + (i : Int)) a b x y) hpi.1.1 hpi.2.1 W)
        have E := Lib.hid (And.intro e1 (And.intro e2 (And.intro e3 e4)))
        clear e1 e2 e3 e4 hpi
        generalize siW (s + (i : Int)) a b = W0 at *
        generalize siH (s + (i : Int)) a b = H0 at *
        generalize posX (s + (i : Int)) a b x y = X0 at *
        generalize posY (s + (i : Int)) a b x y = Y0 at *
        have B0 := Lib.hid A0
        obtain ⟨c0, c1, cf⟩ := A0
        have B1 := Lib.hid A1
        have B2 := Lib.hid A2
        clear A1 A2
        go_wp2_with fail
        refine (C2 _).out.mono ?_
        rintro e w1 ⟨rfl, hb1⟩
        have D0 := B0.out.keep hb1 (by omega)
        have D1 := Lib.hid (B1.out.keep hb1 A3)
        have D2 := Lib.hid (Below.next B2.out hb1)
        have D3 : w.heap.size + 1 < w1.heap.size := Nat.lt_of_lt_of_le A3 hb1.size
        clear hb1 c0 c1 cf B0 B1 B2 A3
        have D4 := Lib.hid D0
        obtain ⟨c0, c1, cf⟩ := D0
        go_wp2_with fail
        go_roundw
        case rel =>
          obtain ⟨e1, e2, e3, e4⟩ := E.out
          refine ⟨i + 1, by omega, by go_num, by rw [e1], by rw [e2], ?_, (D1.out.far (by omega)), below_set2 D2.out (Nat.le_refl _), ?_⟩
          · rw [e3, e4]
            exact D4.out.set
          · have := set2_size w1 w.heap.size (.int .i64 Y0) (.int .i64 (W0 - 1 - X0))
            unfold set2 at this
            omega
        case measure =>
          unfold left3
          simp [RowKit.intOf]
          omega
      · have q0 : ¬ (i : Int) < r := by omega
        obtain rfl : i = r := by omega
        have B0 := Lib.hid A0
        have B1 := Lib.hid A1
        have B2 := Lib.hid A2
        obtain ⟨c0, c1, cf⟩ := A0
        obtain ⟨d0, d1, df⟩ := A1
        clear A2
        rw [HT.out] at c0 c1
        go_wp2_with fail
        refine bodyPost_ret (v := .agg #[.int .i64 (posX t a b x y), .int .i64 (posY t a b x y)]) (by simp [results, Tryz.results89, go_sem, d0, d1]) rfl ⟨rfl, ?_⟩
        exact below_set2 B2.out (Nat.le_succ _)
  · have h4 : 4 ≤ t := by have := HT.out; omega
    clear hs
    obtain ⟨c0, c1, cf⟩ := T0.out
    go_enter Tryz.func89, Tryz.ntmps89
    go_wp2_with fail
    refine (C1 _).out.mono ?_
    rintro e w1 ⟨rfl, hb1⟩
    have D0 := T0.out.keep hb1 (by simp; omega)
    have D1 := Lib.hid (T1.out.keep hb1 (by simp))
    have D2 := Lib.hid (Below.next HB.out hb1)
    have D3 : w.heap.size + 1 < w1.heap.size := by
      have := hb1.size
      simp at this
      omega
    clear hb1 c0 c1 cf
    have D4 := Lib.hid D0
    obtain ⟨c0, c1, cf⟩ := D0
    go_wp2_with fail
    go_loopw [1, 2, 9] (fun s1 s2 s9 wr => PlR w s r a b x y s1 s2 s9 wr) (fun _ _ s9 _ => left3 r s9)
    case atStart =>
      have hs4 : s = 4 := by
        rcases HS.out with e | e
        · exfalso; have := HT.out; omega
        · exact e
      subst hs4
      refine ⟨0, by omega, rfl, rfl, rfl, D4.out.set, D1.out.far (by omega), below_set2 D2.out (Nat.le_refl _), ?_⟩
      have := set2_size w1 w.heap.size (.int .i64 (a - 1 - x)) (.int .i64 y)
      unfold set2 at this
      omega
    case round =>
      obtain ⟨i, hi, rfl, rfl, rfl, A0, A1, A2, A3⟩ := hrel
      by_cases hlt : i < r
      · have q0 : (i : Int) < r := by omega
        have hpi := Pix.image (s + (i : Int)) HP.out
        obtain ⟨e1, e2, e3, e4⟩ := turn_step HS.out (i := i) (by omega) a b x y
        have C2 := fun W => Lib.hid (turn_any (siW (s + (i : Int)) a b) (posX (s + (i : Int)) a b x y) (posY (s + (i : Int)) a b x y) hpi.1.1 hpi.2.1 W)
        have E := Lib.hid (And.intro e1 (And.intro e2 (And.intro e3 e4)))
        clear e1 e2 e3 e4 hpi
        generalize siW (s + (i : Int)) a b = W0 at *
        generalize siH (s + (i : Int)) a b = H0 at *
        generalize posX (s + (i : Int)) a b x y = X0 at *
        generalize posY (s + (i : Int)) a b x y = Y0 at *
        have B0 := Lib.hid A0
        obtain ⟨c0, c1, cf⟩ := A0
        have B1 := Lib.hid A1
        have B2 := Lib.hid A2
        clear A1 A2
        go_wp2_with fail
        refine (C2 _).out.mono ?_
        rintro e w1 ⟨rfl, hb1⟩
        have D0 := B0.out.keep hb1 (by omega)
        have D1 := Lib.hid (B1.out.keep hb1 A3)
        have D2 := Lib.hid (Below.next B2.out hb1)
        have D3 : w.heap.size + 1 < w1.heap.size := Nat.lt_of_lt_of_le A3 hb1.size
        clear hb1 c0 c1 cf B0 B1 B2 A3
        have D4 := Lib.hid D0
        obtain ⟨c0, c1, cf⟩ := D0
        go_wp2_with fail
        go_roundw
        case rel =>
          obtain ⟨e1, e2, e3, e4⟩ := E.out
          refine ⟨i + 1, by omega, by go_num, by rw [e1], by rw [e2], ?_, (D1.out.far (by omega)), below_set2 D2.out (Nat.le_refl _), ?_⟩
          · rw [e3, e4]
            exact D4.out.set
          · have := set2_size w1 w.heap.size (.int .i64 Y0) (.int .i64 (W0 - 1 - X0))
            unfold set2 at this
            omega
        case measure =>
          unfold left3
          simp [RowKit.intOf]
          omega
      · have q0 : ¬ (i : Int) < r := by omega
        obtain rfl : i = r := by omega
        have B0 := Lib.hid A0
        have B1 := Lib.hid A1
        have B2 := Lib.hid A2
        obtain ⟨c0, c1, cf⟩ := A0
        obtain ⟨d0, d1, df⟩ := A1
        clear A2
        rw [HT.out] at c0 c1
        go_wp2_with fail
        refine bodyPost_ret (v := .agg #[.int .i64 (posX t a b x y), .int .i64 (posY t a b x y)]) (by simp [results, Tryz.results89, go_sem, d0, d1]) rfl ⟨rfl, ?_⟩
        exact below_set2 B2.out (Nat.le_succ _)

end Go.Proofs.YthedglfocjljjaaGreatDoor.Trf
