/-
  The average of package scale, over the columns and rows that are covered alone: the numbers.
-/
import Derived.Test.YtnkbejbpkjkgeaaScl
namespace Go.Proofs.Ytnkbejbpkjkgeaa

/-- the first column that is covered, and how many -/
def spF (x a w : Nat) : Nat := x * a / w
def spC (x a w : Nat) : Nat := ((x + 1) * a - 1) / w - x * a / w + 1

theorem sp_mid {x a w : Nat} (ha : 1 ≤ a) : x * a / w ≤ ((x + 1) * a - 1) / w := Nat.div_le_div_right (by rw [Nat.add_mul, Nat.one_mul]; omega)
theorem sp_end {x a w : Nat} (ha : 1 ≤ a) : spF x a w + spC x a w = ((x + 1) * a - 1) / w + 1 := by
  have h := sp_mid (x := x) (w := w) ha
  unfold spF spC
  omega
theorem sp_in {x a w : Nat} (hx : x < w) (ha : 1 ≤ a) : spF x a w + spC x a w ≤ a := by
  rw [sp_end ha]
  apply Nat.succ_le_of_lt
  apply Nat.div_lt_of_lt_mul
  have h1 : (x + 1) * a ≤ w * a := Nat.mul_le_mul_right a hx
  have h2 : 1 ≤ (x + 1) * a := Nat.mul_pos (Nat.succ_pos x) ha
  omega
theorem ovl_before {x a w i : Nat} (hw : 0 < w) (h : i < spF x a w) : ovl x w i a = 0 := by
  have h1 : (i + 1) * w ≤ x * a := (Nat.le_div_iff_mul_le hw).1 h
  unfold ovl
  omega
theorem ovl_behind {x a w i : Nat} (hw : 0 < w) (ha : 1 ≤ a) (h : spF x a w + spC x a w ≤ i) : ovl x w i a = 0 := by
  rw [sp_end ha] at h
  have h1 : (x + 1) * a - 1 < i * w := (Nat.div_lt_iff_lt_mul hw).1 h
  unfold ovl
  omega
/-- within what is covered the weight is the difference -/
theorem ovl_within {x a w i : Nat} (hw : 0 < w) (ha : 1 ≤ a) (h1 : spF x a w ≤ i) (h2 : i < spF x a w + spC x a w) : min (((x + 1) * a : Nat) : Int) (((i + 1) * w : Nat) : Int) - max ((x * a : Nat) : Int) ((i * w : Nat) : Int) = ((ovl x w i a : Nat) : Int) := by
  rw [sp_end ha] at h2
  have g1 : x * a < (i + 1) * w := (Nat.div_lt_iff_lt_mul hw).1 (Nat.lt_succ_of_le h1)
  have g2 : i * w ≤ (x + 1) * a - 1 := (Nat.le_div_iff_mul_le hw).1 (Nat.le_of_lt_succ h2)
  have g3 : x * a ≤ (x + 1) * a := Nat.mul_le_mul_right a (Nat.le_succ x)
  have g4 : i * w ≤ (i + 1) * w := Nat.mul_le_mul_right w (Nat.le_succ i)
  unfold ovl
  omega

theorem sum_add (f : Nat → Nat) (n m : Nat) : sumN (n + m) f = sumN n f + sumN m (fun i => f (n + i)) := by
  induction m with
  | zero => rfl
  | succ m ih => rw [← Nat.add_assoc, sum_succ, sum_succ, ih, Nat.add_assoc]
theorem sum_none {n : Nat} {f : Nat → Nat} (h : ∀ i, i < n → f i = 0) : sumN n f = 0 := by
  induction n with
  | zero => rfl
  | succ n ih => rw [sum_succ, ih (fun i hi => h i (by omega)), h n (by omega)]
theorem sum_window {n f c : Nat} {g : Nat → Nat} (h : f + c ≤ n) (h1 : ∀ i, i < f → g i = 0) (h2 : ∀ i, f + c ≤ i → g i = 0) : sumN c (fun i => g (f + i)) = sumN n g := by
  have e : n = f + (c + (n - (f + c))) := by omega
  rw [e, sum_add, sum_none h1, Nat.zero_add, sum_add, sum_none (n := n - (f + c)) (fun i _ => h2 _ (by omega)), Nat.add_zero]

/-- the weight of a pixel of the buffer -/
def wgt (a b x y w h i j : Nat) : Nat := ovl x w i a * ovl y h j b
/-- the sum up to row j and column i of what is covered -/
def apart (a b x y w h : Nat) (c : Nat → Nat) (j i : Nat) : Nat :=
  sumN j (fun j => sumN (spC x a w) fun i => wgt a b x y w h (spF x a w + i) (spF y b h + j) * c ((spF y b h + j) * a + (spF x a w + i))) +
  sumN i (fun i => wgt a b x y w h (spF x a w + i) (spF y b h + j) * c ((spF y b h + j) * a + (spF x a w + i)))

theorem apart_zero (a b x y w h : Nat) (c : Nat → Nat) : apart a b x y w h c 0 0 = 0 := rfl
theorem apart_next (a b x y w h : Nat) (c : Nat → Nat) (j i : Nat) : apart a b x y w h c j (i + 1) = apart a b x y w h c j i + wgt a b x y w h (spF x a w + i) (spF y b h + j) * c ((spF y b h + j) * a + (spF x a w + i)) := by
  unfold apart
  rw [sum_succ, Nat.add_assoc]
theorem apart_row (a b x y w h : Nat) (c : Nat → Nat) (j : Nat) : apart a b x y w h c j (spC x a w) = apart a b x y w h c (j + 1) 0 := by
  unfold apart
  rw [sum_succ, sum_zero]
  rfl
theorem apart_all {a b x y w h : Nat} (c : Nat → Nat) (hx : x < w) (hy : y < h) (ha : 1 ≤ a) (hb : 1 ≤ b) : apart a b x y w h c (spC y b h) 0 = wsum a b x y w h c := by
  unfold apart wsum
  rw [sum_zero, Nat.add_zero]
  have e : ∀ j, (sumN (spC x a w) fun i => wgt a b x y w h (spF x a w + i) (spF y b h + j) * c ((spF y b h + j) * a + (spF x a w + i))) = sumN a fun i => wgt a b x y w h i (spF y b h + j) * c ((spF y b h + j) * a + i) := fun j =>
    sum_window (g := fun i => wgt a b x y w h i (spF y b h + j) * c ((spF y b h + j) * a + i)) (sp_in hx ha) (fun i hi => by unfold wgt; rw [ovl_before (by omega) hi, Nat.zero_mul, Nat.zero_mul]) (fun i hi => by unfold wgt; rw [ovl_behind (by omega) ha hi, Nat.zero_mul, Nat.zero_mul])
  rw [sum_congr (fun j _ => e j)]
  exact sum_window (g := fun j => sumN a fun i => wgt a b x y w h i j * c (j * a + i)) (sp_in hy hb) (fun j hj => sum_none fun i _ => by unfold wgt; rw [ovl_before (by omega) hj, Nat.mul_zero, Nat.zero_mul]) (fun j hj => sum_none fun i _ => by unfold wgt; rw [ovl_behind (by omega) hb hj, Nat.mul_zero, Nat.zero_mul])
theorem apart_le {a b x y w h : Nat} (c : Nat → Nat) {j i : Nat} (hx : x < w) (hy : y < h) (ha : 1 ≤ a) (hb : 1 ≤ b) (hj : j < spC y b h) (hi : i ≤ spC x a w) : apart a b x y w h c j i ≤ wsum a b x y w h c := by
  have h1 := sum_part (fun i => wgt a b x y w h (spF x a w + i) (spF y b h + j) * c ((spF y b h + j) * a + (spF x a w + i))) hi
  have h2 := sum_part (fun j => sumN (spC x a w) fun i => wgt a b x y w h (spF x a w + i) (spF y b h + j) * c ((spF y b h + j) * a + (spF x a w + i))) (show j + 1 ≤ spC y b h from hj)
  have h3 := apart_all c hx hy ha hb
  rw [sum_succ] at h2
  unfold apart at h3 ⊢
  rw [sum_zero] at h3
  omega

end Go.Proofs.Ytnkbejbpkjkgeaa
