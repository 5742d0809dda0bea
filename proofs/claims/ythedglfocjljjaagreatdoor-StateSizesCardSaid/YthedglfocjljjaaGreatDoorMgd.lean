/-
  What package scale computes, without the program: nearest pixels, averages by weights, blocks, mapped rectangles.
-/
import Derived.Test.YthedglfocjljjaaGreatDoorMga
import Derived.Test.YthedglfocjljjaaGreatDoorMgc
namespace Go.Proofs.YthedglfocjljjaaGreatDoor


def sumN (n : Nat) (f : Nat → Nat) : Nat :=
  match n with
  | 0 => 0
  | n + 1 => sumN n f + f n

theorem sum_zero (f : Nat → Nat) : sumN 0 f = 0 := rfl
theorem sum_succ (n : Nat) (f : Nat → Nat) : sumN (n + 1) f = sumN n f + f n := rfl
theorem sum_congr {n : Nat} {f g : Nat → Nat} (h : ∀ i, i < n → f i = g i) : sumN n f = sumN n g := by
  induction n with
  | zero => rfl
  | succ n ih => rw [sum_succ, sum_succ, ih (fun i hi => h i (by omega)), h n (by omega)]
theorem sum_mul (n : Nat) (f : Nat → Nat) (c : Nat) : sumN n (fun i => f i * c) = sumN n f * c := by
  induction n with
  | zero => simp [sum_zero]
  | succ n ih => rw [sum_succ, sum_succ, ih, Nat.add_mul]
theorem mul_sum (n : Nat) (f : Nat → Nat) (c : Nat) : sumN n (fun i => c * f i) = c * sumN n f := by
  rw [Nat.mul_comm, ← sum_mul]
  exact sum_congr fun i _ => Nat.mul_comm _ _
theorem sum_le {n : Nat} {f g : Nat → Nat} (h : ∀ i, i < n → f i ≤ g i) : sumN n f ≤ sumN n g := by
  induction n with
  | zero => exact Nat.le_refl _
  | succ n ih =>
    rw [sum_succ, sum_succ]
    exact Nat.add_le_add (ih (fun i hi => h i (by omega))) (h n (by omega))
theorem sum_part {n m : Nat} (f : Nat → Nat) (h : n ≤ m) : sumN n f ≤ sumN m f := by
  induction m with
  | zero => rw [Nat.le_zero.1 h]; exact Nat.le_refl _
  | succ m ih =>
    rcases Nat.lt_or_ge n (m + 1) with h1 | h1
    · exact Nat.le_trans (ih (by omega)) (by rw [sum_succ]; omega)
    · rw [Nat.le_antisymm h h1]
      exact Nat.le_refl _


def ovl (x m i n : Nat) : Nat := min ((x + 1) * n) ((i + 1) * m) - max (x * n) (i * m)

theorem ovl_int (x m i n : Nat) : max 0 (min (((x : Int) + 1) * n) (((i : Int) + 1) * m) - max ((x : Int) * n) ((i : Int) * m)) = ((ovl x m i n : Nat) : Int) := by
  unfold ovl
  have e1 : ((x : Int) + 1) * n = (((x + 1) * n : Nat) : Int) := by rw [Int.natCast_mul]; rfl
  have e2 : ((i : Int) + 1) * m = (((i + 1) * m : Nat) : Int) := by rw [Int.natCast_mul]; rfl
  have e3 : (x : Int) * n = ((x * n : Nat) : Int) := (Int.natCast_mul _ _).symm
  have e4 : (i : Int) * m = ((i * m : Nat) : Int) := (Int.natCast_mul _ _).symm
  rw [e1, e2, e3, e4]
  omega

theorem ovl_le (x m i n : Nat) : ovl x m i n ≤ n := by
  unfold ovl
  rw [Nat.add_mul, Nat.one_mul]
  omega
theorem ovl_le' (x m i n : Nat) : ovl x m i n ≤ m := by
  unfold ovl
  rw [Nat.add_mul i 1 m, Nat.one_mul]
  omega

theorem ovl_sum_to (x m n : Nat) : ∀ t, sumN t (fun i => ovl x m i n) = min ((x + 1) * n) (t * m) - min (x * n) (t * m)
  | 0 => by simp [sum_zero]
  | t + 1 => by
    rw [sum_succ, ovl_sum_to x m n t]
    unfold ovl
    rw [Nat.add_mul x 1 n, Nat.add_mul t 1 m, Nat.one_mul, Nat.one_mul]
    omega

theorem ovl_sum {x m n : Nat} (h : x < m) : sumN n (fun i => ovl x m i n) = n := by
  rw [ovl_sum_to]
  have h1 : (x + 1) * n ≤ m * n := Nat.mul_le_mul_right n h
  rw [Nat.mul_comm m n] at h1
  rw [Nat.add_mul, Nat.one_mul] at h1 ⊢
  omega

theorem ovl_pos {x m i n : Nat} (h : ovl x m i n ≠ 0) : x * n < (i + 1) * m ∧ i * m < (x + 1) * n := by
  unfold ovl at h
  omega

theorem ovl_same {x i n : Nat} (h : ovl x n i n ≠ 0) : i = x := by
  obtain ⟨h1, h2⟩ := ovl_pos h
  have := Nat.lt_of_mul_lt_mul_right h1
  have := Nat.lt_of_mul_lt_mul_right h2
  omega
theorem div_is {x k q : Nat} (h1 : q * k ≤ x) (h2 : x < (q + 1) * k) : x / k = q := by
  have hk : 0 < k := by
    rcases Nat.eq_zero_or_pos k with h | h
    · rw [h, Nat.mul_zero] at h2; omega
    · exact h
  apply Nat.le_antisymm
  · exact Nat.le_of_lt_succ ((Nat.div_lt_iff_lt_mul hk).2 h2)
  · exact (Nat.le_div_iff_mul_le hk).2 h1
theorem ovl_down {x i a k : Nat} (h : ovl x a i (a * k) ≠ 0) : i / k = x := by
  obtain ⟨h1, h2⟩ := ovl_pos h
  have e1 : x * (a * k) = x * k * a := by rw [Nat.mul_comm a k, Nat.mul_assoc]
  have e2 : (x + 1) * (a * k) = (x + 1) * k * a := by rw [Nat.mul_comm a k, Nat.mul_assoc]
  rw [e1] at h1
  rw [e2] at h2
  have g1 := Nat.lt_of_mul_lt_mul_right h1
  have g2 := Nat.lt_of_mul_lt_mul_right h2
  exact div_is (by omega) g2
theorem ovl_up {x i a k : Nat} (h : ovl x (a * k) i a ≠ 0) : x / k = i := by
  obtain ⟨h1, h2⟩ := ovl_pos h
  have e1 : (i + 1) * (a * k) = (i + 1) * k * a := by rw [Nat.mul_comm a k, Nat.mul_assoc]
  have e2 : i * (a * k) = i * k * a := by rw [Nat.mul_comm a k, Nat.mul_assoc]
  rw [e1] at h1
  rw [e2] at h2
  have g1 := Nat.lt_of_mul_lt_mul_right h1
  have g2 := Nat.lt_of_mul_lt_mul_right h2
  exact div_is (by omega) g1


def wsum (a b x y w h : Nat) (c : Nat → Nat) : Nat := sumN b fun j => sumN a fun i => ovl x w i a * ovl y h j b * c (j * a + i)
def wpart (a b x y w h : Nat) (c : Nat → Nat) (j i : Nat) : Nat := sumN j (fun j => sumN a fun i => ovl x w i a * ovl y h j b * c (j * a + i)) + sumN i (fun i => ovl x w i a * ovl y h j b * c (j * a + i))

theorem wpart_zero (a b x y w h : Nat) (c : Nat → Nat) : wpart a b x y w h c 0 0 = 0 := rfl
theorem wpart_next (a b x y w h : Nat) (c : Nat → Nat) (j i : Nat) : wpart a b x y w h c j (i + 1) = wpart a b x y w h c j i + ovl x w i a * ovl y h j b * c (j * a + i) := by
  unfold wpart
  rw [sum_succ, Nat.add_assoc]
theorem wpart_row (a b x y w h : Nat) (c : Nat → Nat) (j : Nat) : wpart a b x y w h c j a = wpart a b x y w h c (j + 1) 0 := by
  unfold wpart
  rw [sum_succ, sum_zero]
  rfl
theorem wpart_all (a b x y w h : Nat) (c : Nat → Nat) : wpart a b x y w h c b 0 = wsum a b x y w h c := rfl

theorem wsum_le {a b x y w h : Nat} {c d : Nat → Nat} (hc : ∀ k, k < a * b → c k ≤ d k) : wsum a b x y w h c ≤ wsum a b x y w h d :=
  sum_le fun _ hj => sum_le fun _ hi => Nat.mul_le_mul_left _ (hc _ (idx_lt hi hj))
theorem wpart_le (a b x y w h : Nat) (c : Nat → Nat) {j i : Nat} (hj : j < b) (hi : i ≤ a) : wpart a b x y w h c j i ≤ wsum a b x y w h c := by
  have h1 := sum_part (fun i => ovl x w i a * ovl y h j b * c (j * a + i)) hi
  have h2 := sum_part (fun j => sumN a fun i => ovl x w i a * ovl y h j b * c (j * a + i)) (show j + 1 ≤ b from hj)
  rw [sum_succ] at h2
  unfold wpart wsum
  omega
theorem wsum_const {a b x y w h : Nat} (hx : x < w) (hy : y < h) (p : Nat) : wsum a b x y w h (fun _ => p) = a * b * p := by
  unfold wsum
  have e : ∀ j, (sumN a fun i => ovl x w i a * ovl y h j b * p) = ovl y h j b * (a * p) := fun j => by
    have : ∀ i, ovl x w i a * ovl y h j b * p = ovl x w i a * (ovl y h j b * p) := fun i => Nat.mul_assoc _ _ _
    rw [sum_congr (fun i _ => this i), sum_mul, ovl_sum hx, Nat.mul_left_comm]
  rw [sum_congr (fun j _ => e j), sum_mul, ovl_sum hy, ← Nat.mul_assoc, Nat.mul_comm b a]
theorem wsum_of {a b x y w h : Nat} {c d : Nat → Nat} (hc : ∀ i j, i < a → j < b → ovl x w i a ≠ 0 → ovl y h j b ≠ 0 → c (j * a + i) = d (j * a + i)) : wsum a b x y w h c = wsum a b x y w h d := by
  refine sum_congr fun j hj => sum_congr fun i hi => ?_
  by_cases h0 : ovl x w i a = 0
  · rw [h0, Nat.zero_mul, Nat.zero_mul, Nat.zero_mul]
  · by_cases h1 : ovl y h j b = 0
    · rw [h1, Nat.mul_zero, Nat.zero_mul, Nat.zero_mul]
    · rw [hc i j hi hj h0 h1]

def rndN (s t : Nat) : Nat := (2 * s + t) / (2 * t)
theorem rnd_mul {t : Nat} (ht : 0 < t) (p : Nat) : rndN (t * p) t = p := by
  unfold rndN
  have e : 2 * (t * p) + t = t + 2 * t * p := by rw [Nat.mul_assoc]; omega
  rw [e, Nat.add_mul_div_left _ _ (by omega), Nat.div_eq_of_lt (by omega), Nat.zero_add]
theorem rnd_mono {s s' t : Nat} (h : s ≤ s') : rndN s t ≤ rndN s' t := Nat.div_le_div_right (by omega)
theorem rnd_le {s t p : Nat} (ht : 0 < t) (h : s ≤ t * p) : rndN s t ≤ p := Nat.le_trans (rnd_mono h) (by rw [rnd_mul ht]; exact Nat.le_refl _)
theorem le_rnd {s t p : Nat} (ht : 0 < t) (h : t * p ≤ s) : p ≤ rndN s t := Nat.le_trans (by rw [rnd_mul ht]; exact Nat.le_refl _) (rnd_mono h)

def boxP (a b : Nat) (l : List Px) (x y w h : Nat) : Px :=
  ⟨rndN (wsum a b x y w h fun k => (l.getD k zeroPx).r) (a * b), rndN (wsum a b x y w h fun k => (l.getD k zeroPx).g) (a * b), rndN (wsum a b x y w h fun k => (l.getD k zeroPx).b) (a * b), rndN (wsum a b x y w h fun k => (l.getD k zeroPx).a) (a * b)⟩
def boxL (a b : Nat) (l : List Px) (w h : Nat) : List Px := tabL (w * h) fun k => boxP a b l (k % w) (k / w) w h
def nrsI (x n m : Nat) : Nat := (2 * x + 1) * n / (2 * m)
def nearL (a b : Nat) (l : List Px) (w h : Nat) : List Px := tabL (w * h) fun k => l.getD (nrsI (k / w) b h * a + nrsI (k % w) a w) zeroPx
def enlL (a b : Nat) (l : List Px) (k : Nat) : List Px := tabL (a * k * (b * k)) fun i => l.getD (i / (a * k) / k * a + i % (a * k) / k) zeroPx

theorem box_len (a b : Nat) (l : List Px) (w h : Nat) : (boxL a b l w h).length = w * h := tab_len _ _
theorem near_len (a b : Nat) (l : List Px) (w h : Nat) : (nearL a b l w h).length = w * h := tab_len _ _
theorem enl_len (a b : Nat) (l : List Px) (k : Nat) : (enlL a b l k).length = a * k * (b * k) := tab_len _ _

theorem pos_mul {a b : Nat} (ha : 1 ≤ a) (hb : 1 ≤ b) : 0 < a * b := Nat.mul_pos ha hb

theorem boxP_one {a b : Nat} {l : List Px} {x y w h : Nat} {p : Px} (ha : 1 ≤ a) (hb : 1 ≤ b) (hx : x < w) (hy : y < h) (hp : ∀ i j, i < a → j < b → ovl x w i a ≠ 0 → ovl y h j b ≠ 0 → l.getD (j * a + i) zeroPx = p) : boxP a b l x y w h = p := by
  have h0 := pos_mul ha hb
  have key : ∀ f : Px → Nat, rndN (wsum a b x y w h fun k => f (l.getD k zeroPx)) (a * b) = f p := fun f => by
    rw [wsum_of (d := fun _ => f p) (fun i j hi hj h1 h2 => by rw [hp i j hi hj h1 h2]), wsum_const hx hy, rnd_mul h0]
  unfold boxP
  exact px_ext (key Px.r) (key Px.g) (key Px.b) (key Px.a)

theorem boxP_le {a b : Nat} {l : List Px} {x y w h m : Nat} (f : Px → Nat) (ha : 1 ≤ a) (hb : 1 ≤ b) (hx : x < w) (hy : y < h) (hp : ∀ k, k < a * b → f (l.getD k zeroPx) ≤ m) : rndN (wsum a b x y w h fun k => f (l.getD k zeroPx)) (a * b) ≤ m :=
  rnd_le (pos_mul ha hb) (Nat.le_trans (wsum_le hp) (by rw [wsum_const hx hy]; exact Nat.le_refl _))
theorem le_boxP {a b : Nat} {l : List Px} {x y w h m : Nat} (f : Px → Nat) (ha : 1 ≤ a) (hb : 1 ≤ b) (hx : x < w) (hy : y < h) (hp : ∀ k, k < a * b → m ≤ f (l.getD k zeroPx)) : m ≤ rndN (wsum a b x y w h fun k => f (l.getD k zeroPx)) (a * b) :=
  le_rnd (pos_mul ha hb) (Nat.le_trans (by rw [wsum_const hx hy]; exact Nat.le_refl _) (wsum_le (c := fun _ => m) hp))

theorem getD_byt {l : List Px} (h : ∀ p ∈ l, Byt p) (k : Nat) : Byt (l.getD k zeroPx) := by
  rw [List.getD_eq_getElem?_getD]
  cases he : l[k]? with
  | none => exact ⟨by decide, by decide, by decide, by decide⟩
  | some p => exact h p (List.mem_of_getElem? he)
theorem getD_ok {l : List Px} (h : ∀ p ∈ l, okPx p = true) (k : Nat) : okPx (l.getD k zeroPx) = true := by
  rw [List.getD_eq_getElem?_getD]
  cases he : l[k]? with
  | none => rfl
  | some p => exact h p (List.mem_of_getElem? he)
theorem in_tab {α : Type} {n : Nat} {f : Nat → α} {x : α} (h : x ∈ tabL n f) : ∃ k, k < n ∧ x = f k := by
  unfold tabL at h
  obtain ⟨k, hk, rfl⟩ := List.mem_map.1 h
  exact ⟨k, List.mem_range.1 hk, rfl⟩

theorem boxP_byt {a b : Nat} {l : List Px} {x y w h : Nat} (ha : 1 ≤ a) (hb : 1 ≤ b) (hx : x < w) (hy : y < h) (hl : ∀ p ∈ l, Byt p) : Byt (boxP a b l x y w h) := by
  have key : ∀ f : Px → Nat, (∀ k, f (l.getD k zeroPx) ≤ 255) → rndN (wsum a b x y w h fun k => f (l.getD k zeroPx)) (a * b) < 256 := fun f hf => Nat.lt_succ_of_le (boxP_le f ha hb hx hy fun k _ => hf k)
  exact ⟨key Px.r fun k => Nat.le_of_lt_succ (getD_byt hl k).1, key Px.g fun k => Nat.le_of_lt_succ (getD_byt hl k).2.1, key Px.b fun k => Nat.le_of_lt_succ (getD_byt hl k).2.2.1, key Px.a fun k => Nat.le_of_lt_succ (getD_byt hl k).2.2.2⟩
theorem boxP_ok {a b : Nat} {l : List Px} {x y w h : Nat} (hl : ∀ p ∈ l, okPx p = true) : okPx (boxP a b l x y w h) = true := by
  have hk : ∀ k, (l.getD k zeroPx).r ≤ (l.getD k zeroPx).a ∧ (l.getD k zeroPx).g ≤ (l.getD k zeroPx).a ∧ (l.getD k zeroPx).b ≤ (l.getD k zeroPx).a := fun k => okPx_iff.1 (getD_ok hl k)
  exact okPx_iff.2 ⟨rnd_mono (wsum_le fun k _ => (hk k).1), rnd_mono (wsum_le fun k _ => (hk k).2.1), rnd_mono (wsum_le fun k _ => (hk k).2.2)⟩

theorem box_vld {a b w h : Nat} {l : List Px} (hv : Vld a b l) (hw : 1 ≤ w ∧ w ≤ 256) (hh : 1 ≤ h ∧ h ≤ 256) : Vld w h (boxL a b l w h) :=
  ⟨hw.1, hw.2, hh.1, hh.2, box_len _ _ _ _ _, fun p hp => by
    obtain ⟨k, _, rfl⟩ := in_tab hp
    exact boxP_ok hv.ok⟩
theorem box_byt {a b w h : Nat} {l : List Px} (hv : Vld a b l) (hw : 1 ≤ w) (hl : ∀ p ∈ l, Byt p) : ∀ p ∈ boxL a b l w h, Byt p := fun p hp => by
  obtain ⟨k, hk, rfl⟩ := in_tab hp
  exact boxP_byt hv.a1 hv.b1 (col_lt hw) (row_lt hk) hl
theorem near_vld {a b w h : Nat} {l : List Px} (hv : Vld a b l) (hw : 1 ≤ w ∧ w ≤ 256) (hh : 1 ≤ h ∧ h ≤ 256) : Vld w h (nearL a b l w h) :=
  ⟨hw.1, hw.2, hh.1, hh.2, near_len _ _ _ _ _, fun p hp => by
    obtain ⟨k, _, rfl⟩ := in_tab hp
    exact getD_ok hv.ok _⟩
theorem near_byt {a b w h : Nat} {l : List Px} (hl : ∀ p ∈ l, Byt p) : ∀ p ∈ nearL a b l w h, Byt p := fun p hp => by
  obtain ⟨k, _, rfl⟩ := in_tab hp
  exact getD_byt hl _
theorem enl_vld {a b k : Nat} {l : List Px} (hv : Vld a b l) (hk : 1 ≤ k) (ha : a * k ≤ 256) (hb : b * k ≤ 256) : Vld (a * k) (b * k) (enlL a b l k) :=
  ⟨pos_mul hv.a1 hk, ha, pos_mul hv.b1 hk, hb, enl_len _ _ _ _, fun p hp => by
    obtain ⟨k, _, rfl⟩ := in_tab hp
    exact getD_ok hv.ok _⟩
theorem enl_byt {a b k : Nat} {l : List Px} (hl : ∀ p ∈ l, Byt p) : ∀ p ∈ enlL a b l k, Byt p := fun p hp => by
  obtain ⟨k, _, rfl⟩ := in_tab hp
  exact getD_byt hl _


theorem near_lt {x n m : Nat} (hx : x < m) (hn : 1 ≤ n) : nrsI x n m < n := by
  unfold nrsI
  apply Nat.div_lt_of_lt_mul
  have h1 : (2 * x + 1) * n < 2 * m * n := Nat.mul_lt_mul_of_pos_right (by omega) hn
  exact h1
theorem near_same {x n : Nat} (hn : 1 ≤ n) : nrsI x n n = x := by
  unfold nrsI
  refine div_is ?_ ?_
  · have : x * (2 * n) = 2 * x * n := by rw [Nat.mul_left_comm, Nat.mul_assoc]
    rw [this]
    exact Nat.mul_le_mul_right n (by omega)
  · have : (x + 1) * (2 * n) = (2 * x + 2) * n := by rw [Nat.mul_left_comm, ← Nat.mul_assoc, Nat.mul_add]
    rw [this]
    exact Nat.mul_lt_mul_of_pos_right (by omega) hn
theorem near_down {x n k : Nat} (hn : 1 ≤ n) (hk : 1 ≤ k) : nrsI x (n * k) n / k = x := by
  have e : nrsI x (n * k) n = (2 * x + 1) * k / 2 := by
    unfold nrsI
    rw [show (2 * x + 1) * (n * k) = (2 * x + 1) * k * n by rw [Nat.mul_comm n k, Nat.mul_assoc], Nat.mul_div_mul_right _ _ hn]
  have e2 : (2 * x + 1) * k = 2 * (x * k) + k := by rw [Nat.add_mul, Nat.one_mul, Nat.mul_assoc]
  have e3 : (x + 1) * k = x * k + k := by rw [Nat.add_mul, Nat.one_mul]
  rw [e, e2]
  refine div_is ?_ ?_
  · omega
  · rw [e3]
    omega
theorem near_up {x n k : Nat} (hn : 1 ≤ n) (hk : 1 ≤ k) : nrsI x n (n * k) = x / k := by
  have e : nrsI x n (n * k) = (2 * x + 1) / (2 * k) := by
    unfold nrsI
    rw [show 2 * (n * k) = 2 * k * n by rw [Nat.mul_comm n k, Nat.mul_assoc], Nat.mul_div_mul_right _ _ hn]
  rw [e]
  have h1 := Nat.div_add_mod x k
  have h2 := Nat.mod_lt x hk
  generalize x / k = q at *
  generalize x % k = r at *
  refine div_is ?_ ?_
  · have : q * (2 * k) = 2 * (k * q) := by rw [Nat.mul_left_comm, Nat.mul_comm q k]
    omega
  · have : (q + 1) * (2 * k) = 2 * (k * q) + 2 * k := by rw [Nat.add_mul, Nat.one_mul, Nat.mul_left_comm, Nat.mul_comm q k]
    omega

theorem near_id {a b : Nat} {l : List Px} (hv : Vld a b l) : nearL a b l a b = l := by
  refine eq_of_getD (by rw [near_len, hv.len]) fun k hk => ?_
  rw [near_len] at hk
  unfold nearL
  rw [tab_getD _ _ hk, near_same hv.b1, near_same hv.a1, idx_of]


theorem enl_getD {a b k x y : Nat} {l : List Px} (hx : x < a * k) (hy : y < b * k) : (enlL a b l k).getD (y * (a * k) + x) zeroPx = l.getD (y / k * a + x / k) zeroPx := by
  unfold enlL
  rw [tab_getD _ _ (idx_lt hx hy), idx_mod hx, idx_div hx]

theorem box_back {a b k : Nat} {l : List Px} (hv : Vld a b l) (hk : 1 ≤ k) : boxL (a * k) (b * k) (enlL a b l k) a b = l := by
  refine eq_of_getD (by rw [box_len, hv.len]) fun i hi => ?_
  rw [box_len] at hi
  unfold boxL
  rw [tab_getD _ _ hi]
  refine boxP_one (pos_mul hv.a1 hk) (pos_mul hv.b1 hk) (col_lt hv.a1) (row_lt hi) fun p q hp hq h1 h2 => ?_
  rw [enl_getD hp hq, ovl_down h1, ovl_down h2, idx_of]
theorem near_back {a b k : Nat} {l : List Px} (hv : Vld a b l) (hk : 1 ≤ k) : nearL (a * k) (b * k) (enlL a b l k) a b = l := by
  refine eq_of_getD (by rw [near_len, hv.len]) fun i hi => ?_
  rw [near_len] at hi
  unfold nearL
  rw [tab_getD _ _ hi, enl_getD (near_lt (col_lt hv.a1) (pos_mul hv.a1 hk)) (near_lt (row_lt hi) (pos_mul hv.b1 hk)), near_down hv.a1 hk, near_down hv.b1 hk, idx_of]
theorem box_enl {a b k : Nat} {l : List Px} (hv : Vld a b l) (hk : 1 ≤ k) : boxL a b l (a * k) (b * k) = enlL a b l k := by
  refine tab_congr fun i hi => ?_
  refine boxP_one hv.a1 hv.b1 (col_lt (pos_mul hv.a1 hk)) (row_lt hi) fun p q hp hq h1 h2 => ?_
  rw [ovl_up h1, ovl_up h2]
theorem near_enl {a b k : Nat} {l : List Px} (hv : Vld a b l) (hk : 1 ≤ k) : nearL a b l (a * k) (b * k) = enlL a b l k := by
  refine tab_congr fun i hi => ?_
  rw [near_up hv.a1 hk, near_up hv.b1 hk]
theorem box_id {a b : Nat} {l : List Px} (hv : Vld a b l) : boxL a b l a b = l := by
  refine eq_of_getD (by rw [box_len, hv.len]) fun i hi => ?_
  rw [box_len] at hi
  unfold boxL
  rw [tab_getD _ _ hi]
  refine boxP_one hv.a1 hv.b1 (col_lt hv.a1) (row_lt hi) fun p q hp hq h1 h2 => ?_
  rw [ovl_same h1, ovl_same h2, idx_of]
theorem enl_one {a b : Nat} {l : List Px} (hv : Vld a b l) : enlL a b l 1 = l := by
  refine eq_of_getD (by rw [enl_len, Nat.mul_one, Nat.mul_one, hv.len]) fun i hi => ?_
  rw [enl_len] at hi
  unfold enlL
  rw [tab_getD _ _ hi, Nat.mul_one, Nat.div_one, Nat.div_one, idx_of]


def leP (p q : Px) : Prop := p.r ≤ q.r ∧ p.g ≤ q.g ∧ p.b ≤ q.b ∧ p.a ≤ q.a
theorem near_between {a b w h : Nat} {l : List Px} {lo hi : Px} (hv : Vld a b l) (hw : 1 ≤ w) (hb : ∀ k, k < a * b → leP lo (l.getD k zeroPx) ∧ leP (l.getD k zeroPx) hi) {k : Nat} (hk : k < w * h) : leP lo ((nearL a b l w h).getD k zeroPx) ∧ leP ((nearL a b l w h).getD k zeroPx) hi := by
  unfold nearL
  rw [tab_getD _ _ hk]
  exact hb _ (idx_lt (near_lt (col_lt hw) hv.a1) (near_lt (row_lt hk) hv.b1))
theorem box_between {a b w h : Nat} {l : List Px} {lo hi : Px} (hv : Vld a b l) (hw : 1 ≤ w) (hb : ∀ k, k < a * b → leP lo (l.getD k zeroPx) ∧ leP (l.getD k zeroPx) hi) {k : Nat} (hk : k < w * h) : leP lo ((boxL a b l w h).getD k zeroPx) ∧ leP ((boxL a b l w h).getD k zeroPx) hi := by
  unfold boxL
  rw [tab_getD _ _ hk]
  have c1 := col_lt (k := k) hw
  have c2 := row_lt hk
  exact ⟨⟨le_boxP Px.r hv.a1 hv.b1 c1 c2 fun k hk => (hb k hk).1.1, le_boxP Px.g hv.a1 hv.b1 c1 c2 fun k hk => (hb k hk).1.2.1, le_boxP Px.b hv.a1 hv.b1 c1 c2 fun k hk => (hb k hk).1.2.2.1, le_boxP Px.a hv.a1 hv.b1 c1 c2 fun k hk => (hb k hk).1.2.2.2⟩,
    ⟨boxP_le Px.r hv.a1 hv.b1 c1 c2 fun k hk => (hb k hk).2.1, boxP_le Px.g hv.a1 hv.b1 c1 c2 fun k hk => (hb k hk).2.2.1, boxP_le Px.b hv.a1 hv.b1 c1 c2 fun k hk => (hb k hk).2.2.2.1, boxP_le Px.a hv.a1 hv.b1 c1 c2 fun k hk => (hb k hk).2.2.2.2⟩⟩

end Go.Proofs.YthedglfocjljjaaGreatDoor
namespace Go.Proofs.YthedglfocjljjaaGreatDoor
open Go.RowKit

set_option maxRecDepth 100000 in
set_option maxHeartbeats 1000000 in
theorem rsized_any (a b : Int) (w : World) : Calls Tryz.prog 68 #[.int .i64 a, .int .i64 b] w fun e w' => e = .returned (.bool (sizB a b)) ∧ w = w' := by
  obtain ⟨v, hv⟩ : ∃ v, sizB a b = v := ⟨_, rfl⟩
  rw [hv]
  unfold sizB at hv
  by_cases h0 : 1 ≤ a <;> by_cases h1 : a ≤ 256 <;> by_cases h2 : 1 ≤ b <;> by_cases h3 : b ≤ 256 <;> (simp [h0, h1, h2, h3] at hv; subst hv)
  all_goals
    go_enter Tryz.func68, Tryz.ntmps68
    go_wp2
    go_ret
    exact ⟨ret_bool (by simp [*]), rfl⟩

theorem ok_no_r {p : Px} (h : ¬ p.r ≤ p.a) : okPx p = false := by simp [okPx]; omega
theorem ok_no_g {p : Px} (h : ¬ p.g ≤ p.a) : okPx p = false := by simp [okPx]; omega
theorem ok_no_b {p : Px} (h : ¬ p.b ≤ p.a) : okPx p = false := by simp [okPx]; omega

set_option maxRecDepth 100000 in
set_option maxHeartbeats 4000000 in
theorem rvalid10_any (a b : Int) {v : Value} {l : List Px} {w : World} (h : Pxs w v l) : Calls Tryz.prog 42 #[.agg #[.int .i64 a, .int .i64 b, v]] w fun e w' => e = .returned (.bool (vBuf a b l)) ∧ Below w.heap.size w w' := by
  obtain ⟨A, c, rfl, hc, hm, hcell⟩ := h
  simp only [maxLen] at hm
  have HC := Lib.hid hcell
  obtain ⟨n, hn⟩ : ∃ n, l.length = n := ⟨_, rfl⟩
  have HN := Lib.hid hn
  rw [hn] at hc ⊢
  clear hcell hn
  have J := Lib.hid ((Held.nil w).alloc [.int .i64 a, .int .i64 b, .slice A n c] 42)
  have C1 := fun W => Lib.hid (rsized_any a b W)
  cases h0 : sizB a b
  · have hv : vBuf a b l = false := by unfold vBuf; rw [h0]; simp
    rw [hv]
    rw [h0] at C1
    clear hv h0
    go_enter Tryz.func42, Tryz.ntmps42
    go_wp2_with (go_at_call 68; (with_reducible refine (C1 _).out.mono ?_); rintro e wq ⟨rfl, rfl⟩)
    go_ret
    exact ⟨rfl, J.out.below⟩
  · obtain ⟨g0, g1⟩ := siz_iff.1 h0
    rw [h0] at C1
    have hp := mul_int g0 g1
    by_cases h2 : (n : Int) = a * b
    · have hv := vBuf_cut h0 (l := l) (by rw [HN.out]; exact h2)
      rw [hv]
      have hdz : (l.drop 0).all okPx = l.all okPx := by rw [List.drop_zero]
      have hw2 : wrap64 (a * b) = (n : Int) := by rw [IntWalk.wrap64_in _ (by omega), h2]
      have hn0 : 0 < n := by omega
      have hn6 : n ≤ 65536 := by omega
      obtain ⟨bb, off, rfl, hbb, hcs⟩ := HC.out (by rw [HN.out]; exact hn0)
      have HC2 := Lib.hid hcs
      obtain ⟨res, hres⟩ : ∃ res, l.all okPx = res := ⟨_, rfl⟩
      rw [hres] at hdz ⊢
      replace hdz := Lib.hid hdz
      clear hv hres HC hcs h2 hp h0 g0 g1
      go_enter Tryz.func42, Tryz.ntmps42
      go_wp2_with (go_at_call 68; (with_reducible refine (C1 _).out.mono ?_); rintro e wq ⟨rfl, rfl⟩)
      clear hw2
      go_loopw [3] (fun st wr => ∃ k : Nat, k ≤ n ∧ st = .int .i64 (k : Int) ∧ Hid ((l.drop k).all okPx = res ∧ Held w wr [(w.heap.size, [.int .i64 a, .int .i64 b, .slice (some ⟨bb, off, none⟩) n c])])) (fun st _ => leftN n st)
      case atStart => exact ⟨0, by omega, rfl, hdz.out, J.out⟩
      case round =>
        obtain ⟨k, hk, rfl, HR⟩ := hrel
        obtain ⟨o0, o1, o2, _, hz⟩ := HR.out.2.tri (l1 := [])
        by_cases hlt : k < n
        · obtain ⟨p, hpx⟩ : ∃ p, l[k]? = some p := ⟨_, List.getElem?_eq_getElem (by rw [HN.out]; exact hlt)⟩
          obtain ⟨c0, c1, c2, c3⟩ := (HC2.out k p hpx).keep HR.out.2.below hbb
          have hd := HR.out.1
          rw [drop_at hpx] at hd
          have q0 : (k : Int) < n := by omega
          have q1 : (0 : Int) ≤ k := by omega
          have K := Lib.hid (HR.out.2.made (.cells #[.int .u8 (p.r : Int), .int .u8 (p.g : Int), .int .u8 (p.b : Int), .int .u8 (p.a : Int)] 58))
          clear hpx HR
          by_cases r0 : p.r ≤ p.a
          · by_cases r1 : p.g ≤ p.a
            · by_cases r2 : p.b ≤ p.a
              · rw [okPx_iff.2 ⟨r0, r1, r2⟩] at hd
                simp only [Bool.true_and] at hd
                replace hd := Lib.hid hd
                have s0 : ¬ (p.a : Int) < p.r := by omega
                have s1 : ¬ (p.a : Int) < p.g := by omega
                have s2 : ¬ (p.a : Int) < p.b := by omega
                go_wp2_with fail
                go_roundw
                case rel => exact ⟨k + 1, by omega, by go_num, hd.out, K.out⟩
                case measure =>
                  unfold leftN
                  simp [RowKit.intOf]
                  omega
              · rw [ok_no_b r2] at hd
                simp only [Bool.false_and] at hd
                subst hd
                have s0 : ¬ (p.a : Int) < p.r := by omega
                have s1 : ¬ (p.a : Int) < p.g := by omega
                have s2 : (p.a : Int) < p.b := by omega
                go_wp2_with fail
                go_ret
                exact ⟨rfl, K.out.below⟩
            · rw [ok_no_g r1] at hd
              simp only [Bool.false_and] at hd
              subst hd
              have s0 : ¬ (p.a : Int) < p.r := by omega
              have s1 : (p.a : Int) < p.g := by omega
              go_wp2_with fail
              go_ret
              exact ⟨rfl, K.out.below⟩
          · rw [ok_no_r r0] at hd
            simp only [Bool.false_and] at hd
            subst hd
            have s0 : (p.a : Int) < p.r := by omega
            go_wp2_with fail
            go_ret
            exact ⟨rfl, K.out.below⟩
        · obtain rfl : k = n := by omega
          have q0 : ¬ (k : Int) < k := by omega
          have hd := HR.out.1
          rw [List.drop_of_length_le (by rw [HN.out]; exact Nat.le_refl _)] at hd
          simp only [List.all_nil] at hd
          subst hd
          go_wp2_with fail
          go_ret
          exact ⟨rfl, HR.out.2.below⟩
    · have hv : vBuf a b l = false := by unfold vBuf; rw [HN.out, decide_eq_false h2]; simp
      rw [hv]
      have hw2 : wrap64 (a * b) = a * b := IntWalk.wrap64_in _ (by omega)
      obtain ⟨ab, hab⟩ : ∃ ab, a * b = ab := ⟨_, rfl⟩
      rw [hab] at h2
      replace hw2 := hw2.trans hab
      have h3 : ((n : Int) == ab) = false := by simpa using h2
      have h4 : ((n : Int) != ab) = true := by simpa using h2
      clear hv h0 hab hp
      go_enter Tryz.func42, Tryz.ntmps42
      go_wp2_with (go_at_call 68; (with_reducible refine (C1 _).out.mono ?_); rintro e wq ⟨rfl, rfl⟩)
      go_ret
      exact ⟨rfl, J.out.below⟩

def chkE (a b : Int) (l : List Px) (w h : Int) : Int := if vBuf a b l = true then (if sizB w h = true then 0 else 6) else 15

set_option maxRecDepth 100000 in
set_option maxHeartbeats 4000000 in
theorem rcheck_any (a b p q : Int) {v : Value} {l : List Px} {w : World} (h : Pxs w v l) : Calls Tryz.prog 87 #[.agg #[.int .i64 a, .int .i64 b, v], .int .i64 p, .int .i64 q] w fun e w' => e = .returned (.int .i64 (chkE a b l p q)) ∧ Below w.heap.size w w' := by
  have H := Lib.hid h
  obtain ⟨A, c, rfl, _⟩ := h.shape
  have J := Lib.hid ((Held.nil w).alloc [.int .i64 a, .int .i64 b, .slice A l.length c] 42)
  have C1 := fun W (hb : Below w.heap.size w W) => Lib.hid (rvalid10_any a b (H.out.below hb))
  have C2 := fun W => Lib.hid (rsized_any p q W)
  unfold chkE
  generalize l.length = n at *
  clear h
  cases hv : vBuf a b l
  · rw [hv] at C1
    clear hv
    go_enter Tryz.func87, Tryz.ntmps87
    go_wp2_with fail
    refine (C1 _ J.out.below).out.mono ?_
    rintro e w1 ⟨rfl, hb⟩
    replace J := Lib.hid (J.out.step hb)
    clear hb
    go_wp2_with fail
    go_ret
    exact ⟨rfl, J.out.below⟩
  · rw [hv] at C1
    cases hs : sizB p q
    all_goals
      rw [hs] at C2
      clear hv hs
      go_enter Tryz.func87, Tryz.ntmps87
      go_wp2_with fail
      refine (C1 _ J.out.below).out.mono ?_
      rintro e w1 ⟨rfl, hb⟩
      replace J := Lib.hid (J.out.step hb)
      clear hb
      go_wp2_with fail
      refine (C2 _).out.mono ?_
      rintro e w2 ⟨rfl, rfl⟩
      go_wp2_with fail
      go_ret
      exact ⟨rfl, J.out.below⟩

end Go.Proofs.YthedglfocjljjaaGreatDoor
