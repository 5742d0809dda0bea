/-
  The grid of separate pixels of the law RegionLimit: it is its own region; its length, its area and its bounds.
-/
import Derived.Test.YtclnepijbnhdfaaPos
namespace Go.Proofs.Ytclnepijbnhdfaa

/-- the runs of a row with n pixels -/
def gridX (n : Nat) : Runs := (List.range n).map fun (x : Nat) => (2 * (x : Int), 2 * (x : Int) + 1)
/-- the rows of a grid with h rows of w pixels -/
def gridB (w h : Nat) : List Band := (List.range h).map fun (y : Nat) => (2 * (y : Int), 2 * (y : Int) + 1, gridX w)
/-- the grid's h full rows and n pixels of the next one -/
def gridP (w h n : Nat) : List R := flatB (gridB w h) ++ bandR (2 * (h : Int), 2 * (h : Int) + 1, gridX n)

theorem gridX_next (n : Nat) : gridX (n + 1) = gridX n ++ [(2 * (n : Int), 2 * (n : Int) + 1)] := by simp [gridX, List.range_succ]
theorem gridB_next (w h : Nat) : gridB w (h + 1) = gridB w h ++ [(2 * (h : Int), 2 * (h : Int) + 1, gridX w)] := by simp [gridB, List.range_succ]

theorem bandR_app (lo hi : Int) (u v : Runs) : bandR (lo, hi, u ++ v) = bandR (lo, hi, u) ++ bandR (lo, hi, v) := by simp [bandR]

theorem gridP_next (w h n : Nat) : gridP w h n ++ [⟨2 * (n : Int), 2 * (h : Int), 2 * (n : Int) + 1, 2 * (h : Int) + 1⟩] = gridP w h (n + 1) := by
  unfold gridP
  rw [gridX_next, bandR_app, List.append_assoc]
  rfl

theorem gridP_row (w h : Nat) : gridP w h w = gridP w (h + 1) 0 := by
  unfold gridP
  rw [gridB_next, flatB_app]
  simp [flatB, bandR, gridX]

theorem gridP_start (w : Nat) : gridP w 0 0 = [] := by simp [gridP, gridB, gridX, flatB, bandR]

theorem gridX_len (n : Nat) : (gridX n).length = n := by simp [gridX]

theorem gridP_len (w : Nat) : ∀ h n : Nat, (gridP w h n).length = h * w + n
  | 0, n => by simp [gridP, gridB, flatB, bandR, gridX]
  | h + 1, 0 => by rw [← gridP_row, gridP_len w h w, Nat.succ_mul, Nat.add_zero]
  | h + 1, n + 1 => by
    have := gridP_len w (h + 1) n
    rw [← gridP_next, List.length_append, this]
    simp [Nat.add_assoc]

theorem gridX_mem {n : Nat} {p : Int × Int} (h : p ∈ gridX n) : ∃ x : Nat, x < n ∧ p = (2 * (x : Int), 2 * (x : Int) + 1) := by
  obtain ⟨x, hx, e⟩ := List.mem_map.1 h
  exact ⟨x, List.mem_range.1 hx, e.symm⟩

theorem gridX_good (n : Nat) : Good (gridX n) := by
  refine ⟨fun p hp => ?_, ?_⟩
  · obtain ⟨x, _, rfl⟩ := gridX_mem hp
    simp only
    omega
  · unfold gridX
    refine List.pairwise_map.2 (List.pairwise_lt_range.imp fun {a b} hab => ?_)
    simp only
    omega

/-- bands whose rectangles are within the limits hold the points of their runs, row by row -/
theorem runs_self : ∀ (bs : List Band) (B : Int), SortF [] B bs → (∀ b ∈ bs, Good b.2.2 ∧ ∀ r ∈ bandR b, empB r = false) → ∀ y, Good (val [] bs y) ∧ ∀ x, inL (flatB bs) x y = inR (val [] bs y) x
  | [], _, _, _, y => ⟨⟨by simp [val], by simp [val]⟩, fun x => by simp [val, flatB, inL, inR]⟩
  | (lo, hi, v) :: bs, B, hs, hb, y => by
    obtain ⟨h1, h2, h3, h4⟩ := hs
    obtain ⟨ih1, ih2⟩ := runs_self bs hi h4 (fun b hb' => hb b (List.mem_cons_of_mem _ hb')) y
    obtain ⟨g, ge⟩ := hb _ List.mem_cons_self
    have hin : ∀ x, inL (bandR (lo, hi, v)) x y = (decide (lo ≤ y ∧ y < hi) && inR v x) := fun x => by
      rw [Bool.eq_iff_iff, inL_iff, Bool.and_eq_true, inR_iff, decide_eq_true_eq]
      constructor
      · rintro ⟨r, hr, hc⟩
        obtain ⟨p, hp, rfl⟩ := List.mem_map.1 hr
        obtain ⟨_, c1, c2, c3, c4⟩ := (con_iff _ x y).1 hc
        exact ⟨⟨c3, c4⟩, p, hp, c1, c2⟩
      · rintro ⟨⟨c3, c4⟩, p, hp, c1, c2⟩
        exact ⟨_, List.mem_map.2 ⟨p, hp, rfl⟩, (con_iff _ x y).2 ⟨ge _ (List.mem_map.2 ⟨p, hp, rfl⟩), c1, c2, c3, c4⟩⟩
    have happ : ∀ x, inL (flatB ((lo, hi, v) :: bs)) x y = (inL (bandR (lo, hi, v)) x y || inL (flatB bs) x y) := fun x => by
      rw [flatB_cons]
      simp [inL]
    by_cases hy : lo ≤ y ∧ y < hi
    · have e : val [] ((lo, hi, v) :: bs) y = v := by simp [val, hy]
      have e2 : val [] bs y = [] := by
        cases hv : decide (val [] bs y = [])
        · obtain ⟨p, hp, q1, _⟩ := val_ne (of_decide_eq_false hv)
          have := (h4.tail_from p hp).1
          omega
        · exact of_decide_eq_true hv
      refine ⟨by rw [e]; exact g, fun x => ?_⟩
      rw [happ, hin, ih2, e, e2, decide_eq_true hy]
      simp [inR]
    · have e : val [] ((lo, hi, v) :: bs) y = val [] bs y := by simp [val, hy]
      refine ⟨by rw [e]; exact ih1, fun x => ?_⟩
      rw [happ, hin, ih2, e, decide_eq_false hy]
      rfl

theorem grid_can (v : Runs) (hv : v ≠ []) : ∀ (n s : Nat) (u : Runs), CanF [] (2 * (s : Int) - 1) u ((List.range' s n).map fun (y : Nat) => (2 * (y : Int), 2 * (y : Int) + 1, v))
  | 0, _, _ => trivial
  | n + 1, s, u => by
    have := grid_can v hv n (s + 1) v
    rw [List.range'_succ, List.map_cons]
    refine ⟨by omega, fun e => by omega, hv, by omega, ?_⟩
    rw [show 2 * (s : Int) + 1 = 2 * ((s + 1 : Nat) : Int) - 1 by omega]
    exact this

theorem grid_region {w h : Nat} (hw : 0 < w) (h1 : w ≤ 20) (h2 : h ≤ 20) : Region (inL (flatB (gridB w h))) (flatB (gridB w h)) := by
  have hv : gridX w ≠ [] := fun e => by
    have := gridX_len w
    rw [e] at this
    simp at this
    omega
  have hc := grid_can (gridX w) hv h 0 []
  rw [← List.range_eq_range'] at hc
  have hb : ∀ b ∈ gridB w h, Good b.2.2 ∧ ∀ r ∈ bandR b, empB r = false := fun b hb => by
    obtain ⟨y, hy, rfl⟩ := List.mem_map.1 hb
    have hy := List.mem_range.1 hy
    refine ⟨gridX_good w, fun r hr => ?_⟩
    obtain ⟨p, hp, rfl⟩ := List.mem_map.1 hr
    obtain ⟨x, hx, rfl⟩ := gridX_mem hp
    rw [emp_no]
    simp only
    omega
  exact ⟨_, rfl, ⟨_, hc⟩, fun y => runsOf_iff.2 (runs_self _ _ hc.sort hb y)⟩

theorem grid_comb {w h : Nat} (h1 : w ≤ 20) (h2 : h ≤ 20) : combP (fun x y => x || y) (gridP w h 0) [] = gridP w h 0 := by
  have e0 : gridP w h 0 = flatB (gridB w h) := by simp [gridP, gridX, bandR]
  rw [e0]
  by_cases hw : 0 < w
  · exact region_unique ((combP_ok (op := fun x y => x || y) rfl _ []).congr fun x y => by simp [setS, inL]) (grid_region hw h1 h2)
  · have : flatB (gridB w h) = [] := by
      have := gridP_len w h 0
      rw [e0] at this
      refine List.eq_nil_of_length_eq_zero ?_
      rw [this, show w = 0 by omega]
      simp
    rw [this]
    exact region_unique (combP_ok (op := fun x y => x || y) rfl [] []) ⟨[], rfl, ⟨0, trivial⟩, fun y => runs_nil fun x => by simp [setS, inL]⟩

theorem grid_area (w : Nat) : ∀ h n : Nat, sumP (gridP w h n) = ((h * w + n : Nat) : Int)
  | 0, 0 => by rw [gridP_start]; simp [sumP]
  | h + 1, 0 => by rw [← gridP_row, grid_area w h w, Nat.succ_mul, Nat.add_zero]
  | h, n + 1 => by
    rw [← gridP_next, sumP_append, grid_area w h n]
    simp only [sumP, areaP]
    rw [show 2 * (n : Int) + 1 - 2 * n = 1 by omega, show 2 * (h : Int) + 1 - 2 * h = 1 by omega]
    omega

/-- the bounds of the grid -/
def gridH (w h n : Nat) : R := if h = 0 then (if n = 0 then zeroR else ⟨0, 0, 2 * n - 1, 1⟩) else if n = 0 then ⟨0, 0, 2 * w - 1, 2 * h - 1⟩ else ⟨0, 0, 2 * w - 1, 2 * h + 1⟩

theorem gridH_next {w h n : Nat} (h1 : w ≤ 20) (h2 : h < 20) (hn : n < w) : uniR (gridH w h n) ⟨2 * (n : Int), 2 * (h : Int), 2 * (n : Int) + 1, 2 * (h : Int) + 1⟩ = gridH w h (n + 1) := by
  have hr : empB ⟨2 * (n : Int), 2 * (h : Int), 2 * (n : Int) + 1, 2 * (h : Int) + 1⟩ = false := by
    rw [emp_no]
    simp only
    omega
  unfold gridH
  by_cases h0 : h = 0
  · subst h0
    by_cases n0 : n = 0
    · subst n0
      rw [if_pos rfl, if_pos rfl, uni_emp_l emp_zero, can_full hr]
      rfl
    · rw [if_pos rfl, if_neg n0, if_pos rfl, if_neg (by omega), uni_full (by rw [emp_no]; simp only; omega) hr]
      refine R.same ?_ ?_ ?_ ?_ <;> simp only [hullR] <;> omega
  · rw [if_neg h0, if_neg h0, if_neg (by omega : ¬ n + 1 = 0)]
    by_cases n0 : n = 0
    · rw [if_pos n0, uni_full (by rw [emp_no]; simp only; omega) hr]
      refine R.same ?_ ?_ ?_ ?_ <;> simp only [hullR] <;> omega
    · rw [if_neg n0, uni_full (by rw [emp_no]; simp only; omega) hr]
      refine R.same ?_ ?_ ?_ ?_ <;> simp only [hullR] <;> omega

theorem grid_hull {w : Nat} (h0 : 0 < w) (h1 : w ≤ 20) : ∀ h n : Nat, (h ≤ 20 ∧ n = 0) ∨ (h < 20 ∧ n ≤ w) → (gridP w h n).foldl uniR zeroR = gridH w h n
  | 0, 0, _ => by rw [gridP_start]; rfl
  | h + 1, 0, hh => by
    rw [← gridP_row, grid_hull h0 h1 h w (.inr (by omega))]
    unfold gridH
    by_cases e : h = 0
    · subst e
      rw [if_pos rfl, if_neg (by omega), if_neg (by omega), if_pos rfl]
      refine R.same rfl rfl rfl ?_
      simp
    · rw [if_neg e, if_neg (by omega), if_neg (by omega), if_pos rfl]
      refine R.same rfl rfl rfl ?_
      simp only
      omega
  | h, n + 1, hh => by
    rw [← gridP_next, List.foldl_append, grid_hull h0 h1 h n (.inr (by omega))]
    exact gridH_next h1 (by omega) (by omega)

end Go.Proofs.Ytclnepijbnhdfaa
