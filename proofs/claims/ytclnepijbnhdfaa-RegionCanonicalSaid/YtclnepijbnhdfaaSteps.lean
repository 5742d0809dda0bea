/-
  Step functions on the integers as lists of steps (from, to, value): each step function has one canonical list; joining adjacent steps of equal value; sums over steps.
-/
import Derived.Lib.Hide
namespace Go.Proofs.Ytclnepijbnhdfaa

section
variable {V : Type}

/-- the value at t of the step function that the list describes; d where no step lies -/
def val (d : V) : List (Int × Int × V) → Int → V
  | [], _ => d
  | (lo, hi, v) :: l, t => if lo ≤ t ∧ t < hi then v else val d l t

/-- canonical: steps from left to right, none of value d, none empty, no two that touch of equal value; from B on, the first not touching B with value u -/
def CanF (d : V) : Int → V → List (Int × Int × V) → Prop
  | _, _, [] => True
  | B, u, (lo, hi, v) :: l => B ≤ lo ∧ (lo = B → v ≠ u) ∧ v ≠ d ∧ lo < hi ∧ CanF d hi v l

/-- steps from left to right, none of value d, none empty; from B on -/
def SortF (d : V) : Int → List (Int × Int × V) → Prop
  | _, [] => True
  | B, (lo, hi, v) :: l => B ≤ lo ∧ v ≠ d ∧ lo < hi ∧ SortF d hi l

theorem CanF.sort {d : V} : ∀ {l : List (Int × Int × V)} {B : Int} {u : V}, CanF d B u l → SortF d B l
  | [], _, _, _ => trivial
  | (_, _, _) :: _, _, _, h => ⟨h.1, h.2.2.1, h.2.2.2.1, CanF.sort h.2.2.2.2⟩

theorem SortF.mono {d : V} {l : List (Int × Int × V)} {B C : Int} (h : SortF d B l) (hc : C ≤ B) : SortF d C l := by
  cases l with
  | nil => trivial
  | cons p l =>
    obtain ⟨lo, hi, v⟩ := p
    exact ⟨Int.le_trans hc h.1, h.2⟩

theorem CanF.mono {d : V} {l : List (Int × Int × V)} {B C : Int} {u u' : V} (h : CanF d B u l) (hc : C < B) : CanF d C u' l := by
  cases l with
  | nil => trivial
  | cons p l =>
    obtain ⟨lo, hi, v⟩ := p
    exact ⟨by have := h.1; omega, fun e => by have := h.1; omega, h.2.2⟩

theorem CanF.free {d : V} {l : List (Int × Int × V)} {B C : Int} {u : V} (h : CanF d B u l) (hc : C ≤ B) : CanF d C d l := by
  cases l with
  | nil => trivial
  | cons p l =>
    obtain ⟨lo, hi, v⟩ := p
    exact ⟨by have := h.1; omega, fun _ => h.2.2.1, h.2.2⟩

/-- what touches with another value may follow -/
theorem CanF.turn {d : V} {l : List (Int × Int × V)} {B : Int} {u u' : V} (h : CanF d B u l) (hu : val d l B ≠ u' ∨ u' = d) : CanF d B u' l := by
  cases l with
  | nil => trivial
  | cons p l =>
    obtain ⟨lo, hi, v⟩ := p
    obtain ⟨h1, h2, h3, h4, h5⟩ := h
    refine ⟨h1, fun e => ?_, h3, h4, h5⟩
    rcases hu with hu | rfl
    · simp only [val] at hu
      rw [if_pos (by omega)] at hu
      exact hu
    · exact h3

theorem val_low {d : V} : ∀ {l : List (Int × Int × V)} {B : Int}, SortF d B l → ∀ {t : Int}, t < B → val d l t = d
  | [], _, _, _, _ => rfl
  | (lo, hi, v) :: l, B, h, t, ht => by
    obtain ⟨h1, h2, h3, h4⟩ := h
    simp only [val]
    rw [if_neg (by omega)]
    exact val_low h4 (by omega)

/-- one canonical list for each step function -/
theorem can_unique {d : V} : ∀ {l m : List (Int × Int × V)} {B : Int} {u : V}, CanF d B u l → CanF d B u m → (∀ t, B ≤ t → val d l t = val d m t) → l = m
  | [], [], _, _, _, _, _ => rfl
  | [], (lo, hi, v) :: m, B, u, _, hm, h => by
    obtain ⟨h1, h2, h3, h4, h5⟩ := hm
    have := h lo h1
    simp only [val] at this
    rw [if_pos (by omega)] at this
    exact absurd this.symm h3
  | (lo, hi, v) :: l, [], B, u, hl, _, h => by
    obtain ⟨h1, h2, h3, h4, h5⟩ := hl
    have := h lo h1
    simp only [val] at this
    rw [if_pos (by omega)] at this
    exact absurd this h3
  | (lo, hi, v) :: l, (lo', hi', v') :: m, B, u, hl, hm, h => by
    obtain ⟨h1, h2, h3, h4, h5⟩ := hl
    obtain ⟨k1, k2, k3, k4, k5⟩ := hm
    have el : lo = lo' := by
      rcases Int.lt_trichotomy lo lo' with e | e | e
      · have := h lo h1
        simp only [val] at this
        rw [if_pos (by omega), if_neg (by omega), val_low k5.sort (by omega)] at this
        exact absurd this h3
      · exact e
      · have := h lo' k1
        simp only [val] at this
        rw [if_pos (by omega : lo' ≤ lo' ∧ lo' < hi'), if_neg (by omega), val_low h5.sort (by omega)] at this
        exact absurd this.symm k3
    subst el
    have ev : v = v' := by
      have := h lo h1
      simp only [val] at this
      rwa [if_pos (by omega), if_pos (by omega)] at this
    subst ev
    have nx : ∀ {a : Int} {l : List (Int × Int × V)}, CanF d a v l → val d l a ≠ v := fun {a l} hc => by
      cases l with
      | nil => exact fun e => h3 e.symm
      | cons p l =>
        obtain ⟨x, y, z⟩ := p
        obtain ⟨c1, c2, c3, c4, c5⟩ := hc
        simp only [val]
        by_cases e : x = a
        · rw [if_pos (by omega)]
          exact c2 e
        · rw [if_neg (by omega), val_low c5.sort (by omega)]
          exact fun e => h3 e.symm
    have eh : hi = hi' := by
      rcases Int.lt_trichotomy hi hi' with e | e | e
      · have := h hi (by omega)
        simp only [val] at this
        rw [if_neg (by omega), if_pos (by omega)] at this
        exact absurd this (nx h5)
      · exact e
      · have := h hi' (by omega)
        simp only [val] at this
        rw [if_pos (by omega), if_neg (by omega)] at this
        exact absurd this.symm (nx k5)
    subst eh
    rw [can_unique h5 k5 (fun t ht => by
      have := h t (by omega)
      simp only [val] at this
      rwa [if_neg (by omega), if_neg (by omega)] at this)]

/-- each step function with bounded steps has a canonical list -/
theorem can_exists (d : V) : ∀ (n : Nat) (B : Int) (f : Int → V), (∀ t, B + n ≤ t → f t = d) → ∃ l, CanF d B d l ∧ ∀ t, B ≤ t → val d l t = f t
  | 0, B, f, h => ⟨[], trivial, fun t ht => (h t (by omega)).symm⟩
  | n + 1, B, f, h => by
    obtain ⟨l, hl, hv⟩ := can_exists d n (B + 1) f (fun t ht => h t (by omega))
    by_cases hd : f B = d
    · refine ⟨l, hl.free (by omega), fun t ht => ?_⟩
      by_cases e : t = B
      · rw [e, val_low hl.sort (by omega), hd]
      · exact hv t (by omega)
    · by_cases hn : val d l (B + 1) = f B
      · cases l with
        | nil => exact absurd hn.symm hd
        | cons p l =>
          obtain ⟨lo, hi, v⟩ := p
          obtain ⟨h1, h2, h3, h4, h5⟩ := hl
          have e : lo = B + 1 := by
            rcases (by omega : B + 1 < lo ∨ lo ≤ B + 1) with e | e
            · simp only [val] at hn
              rw [if_neg (by omega), val_low h5.sort (by omega)] at hn
              exact absurd hn.symm hd
            · omega
          subst e
          have ev : v = f B := by
            simp only [val] at hn
            rwa [if_pos (by omega)] at hn
          subst ev
          refine ⟨(B, hi, f B) :: l, ⟨Int.le_refl _, fun _ => hd, hd, by omega, h5⟩, fun t ht => ?_⟩
          by_cases e : t = B
          · subst e
            simp only [val]
            rw [if_pos (by omega)]
          · have := hv t (by omega)
            simp only [val] at this ⊢
            by_cases e2 : t < hi
            · rw [if_pos (by omega)] at this ⊢
              exact this
            · rw [if_neg (by omega)] at this ⊢
              exact this
      · refine ⟨(B, B + 1, f B) :: l, ⟨Int.le_refl _, fun _ => hd, hd, by omega, hl.turn (.inl hn)⟩, fun t ht => ?_⟩
        simp only [val]
        by_cases e : t = B
        · rw [if_pos (by omega), e]
        · rw [if_neg (by omega)]
          exact hv t (by omega)

/-- the first step c and those that follow, adjacent ones of equal value joined -/
def comp [DecidableEq V] : Int × Int × V → List (Int × Int × V) → List (Int × Int × V)
  | c, [] => [c]
  | (lo, hi, v), (lo', hi', v') :: l => if hi = lo' ∧ v = v' then comp (lo, hi', v) l else (lo, hi, v) :: comp (lo', hi', v') l

theorem comp_ok [DecidableEq V] {d : V} : ∀ {l : List (Int × Int × V)} {lo hi : Int} {v : V} {B : Int} {u : V}, B ≤ lo → (lo = B → v ≠ u) → v ≠ d → lo < hi → SortF d hi l →
    CanF d B u (comp (lo, hi, v) l) ∧ ∀ t, val d (comp (lo, hi, v) l) t = val d ((lo, hi, v) :: l) t
  | [], lo, hi, v, B, u, h1, h2, h3, h4, _ => ⟨⟨h1, h2, h3, h4, trivial⟩, fun _ => rfl⟩
  | (lo', hi', v') :: l, lo, hi, v, B, u, h1, h2, h3, h4, h5 => by
    obtain ⟨k1, k2, k3, k4⟩ := h5
    unfold comp
    by_cases e : hi = lo' ∧ v = v'
    · rw [if_pos e]
      obtain ⟨rfl, rfl⟩ := e
      obtain ⟨c1, c2⟩ := comp_ok (l := l) (lo := lo) (hi := hi') h1 h2 h3 (by omega) k4
      refine ⟨c1, fun t => ?_⟩
      rw [c2 t]
      simp only [val]
      by_cases e1 : lo ≤ t ∧ t < hi
      · rw [if_pos e1, if_pos (by omega)]
      · rw [if_neg e1]
        by_cases e2 : hi ≤ t ∧ t < hi'
        · rw [if_pos e2, if_pos (by omega)]
        · rw [if_neg e2, if_neg (by omega)]
    · rw [if_neg e]
      obtain ⟨c1, c2⟩ := comp_ok (l := l) (lo := lo') (hi := hi') (B := hi) (u := v) k1 (fun e1 e2 => e ⟨e1.symm, e2.symm⟩) k2 k3 k4
      refine ⟨⟨h1, h2, h3, h4, c1⟩, fun t => ?_⟩
      simp only [val]
      rw [c2 t]
      simp only [val]

/-- the whole of a list, adjacent steps of equal value joined -/
def comps [DecidableEq V] : List (Int × Int × V) → List (Int × Int × V)
  | [] => []
  | c :: l => comp c l

theorem comps_ok [DecidableEq V] {d : V} {l : List (Int × Int × V)} {B : Int} (h : SortF d B l) : CanF d B d (comps l) ∧ ∀ t, val d (comps l) t = val d l t := by
  cases l with
  | nil => exact ⟨trivial, fun _ => rfl⟩
  | cons p l =>
    obtain ⟨lo, hi, v⟩ := p
    obtain ⟨h1, h2, h3, h4⟩ := h
    exact comp_ok h1 (fun _ => h2) h2 h3 h4

end

/-! ### sums -/

/-- h A + h (A + 1) + .., n terms -/
def sumR : Nat → Int → (Int → Int) → Int
  | 0, _, _ => 0
  | n + 1, A, h => h A + sumR n (A + 1) h

theorem sumR_congr : ∀ {n : Nat} {A : Int} {f g : Int → Int}, (∀ t, A ≤ t → t < A + n → f t = g t) → sumR n A f = sumR n A g
  | 0, _, _, _, _ => rfl
  | n + 1, A, f, g, h => by
    simp only [sumR]
    rw [h A (by omega) (by omega), sumR_congr (fun t h1 h2 => h t (by omega) (by omega))]

theorem sumR_zero : ∀ {n : Nat} {A : Int} {f : Int → Int}, (∀ t, A ≤ t → t < A + n → f t = 0) → sumR n A f = 0
  | 0, _, _, _ => rfl
  | n + 1, A, f, h => by
    simp only [sumR]
    rw [h A (by omega) (by omega), sumR_zero (fun t h1 h2 => h t (by omega) (by omega))]
    rfl

theorem sumR_add : ∀ {n : Nat} {A : Int} {f g : Int → Int}, sumR n A (fun t => f t + g t) = sumR n A f + sumR n A g
  | 0, _, _, _ => rfl
  | n + 1, A, f, g => by
    simp only [sumR]
    rw [sumR_add]
    omega

theorem sumR_split : ∀ {m n : Nat} {A : Int} {f : Int → Int}, sumR (m + n) A f = sumR m A f + sumR n (A + m) f
  | 0, n, A, f => by simp [sumR]
  | m + 1, n, A, f => by
    rw [show m + 1 + n = (m + n) + 1 by omega]
    simp only [sumR]
    rw [sumR_split, show A + 1 + (m : Int) = A + ((m + 1 : Nat) : Int) by omega]
    omega

theorem sumR_const : ∀ {n : Nat} {A c : Int} {f : Int → Int}, (∀ t, A ≤ t → t < A + n → f t = c) → sumR n A f = n * c
  | 0, _, _, _, _ => by simp [sumR]
  | n + 1, A, c, f, h => by
    simp only [sumR]
    rw [h A (by omega) (by omega), sumR_const (fun t h1 h2 => h t (by omega) (by omega)), Int.natCast_add, Int.add_mul]
    simp
    omega

theorem sumR_le {c : Int} : ∀ {n : Nat} {A : Int} {f : Int → Int}, (∀ t, A ≤ t → t < A + n → 0 ≤ f t ∧ f t ≤ c) → 0 ≤ sumR n A f ∧ sumR n A f ≤ n * c
  | 0, _, _, _ => by simp [sumR]
  | n + 1, A, f, h => by
    simp only [sumR]
    have h0 := h A (by omega) (by omega)
    have ih := sumR_le (c := c) (n := n) (A := A + 1) (f := f) (fun t h1 h2 => h t (by omega) (by omega))
    rw [Int.natCast_add, Int.add_mul]
    simp
    omega

section
variable {V : Type}

/-- the steps' values, each times its length -/
def sumS (g : V → Int) : List (Int × Int × V) → Int
  | [] => 0
  | (lo, hi, v) :: l => (hi - lo) * g v + sumS g l

theorem sum_steps {d : V} {g : V → Int} (hg : g d = 0) : ∀ {l : List (Int × Int × V)} {n : Nat} {A : Int}, SortF d A l → (∀ p ∈ l, p.2.1 ≤ A + n) → sumR n A (fun t => g (val d l t)) = sumS g l
  | [], n, A, _, _ => by
    simp only [val, sumS]
    exact sumR_zero (fun _ _ _ => hg)
  | (lo, hi, v) :: l, n, A, h, hb => by
    obtain ⟨h1, h2, h3, h4⟩ := h
    have hb1 := hb (lo, hi, v) List.mem_cons_self
    simp only at hb1
    obtain ⟨a, ha⟩ := Int.eq_ofNat_of_zero_le (by omega : 0 ≤ lo - A)
    obtain ⟨b, hb'⟩ := Int.eq_ofNat_of_zero_le (by omega : 0 ≤ hi - lo)
    obtain ⟨c, hc⟩ := Int.eq_ofNat_of_zero_le (by omega : 0 ≤ A + n - hi)
    have en : n = a + (b + c) := by omega
    rw [en, sumR_split, sumR_split, show A + (a : Int) = lo by omega, show lo + (b : Int) = hi by omega]
    rw [sumR_zero (fun t t1 t2 => by
      simp only [val]
      rw [if_neg (by omega), val_low h4 (by omega), hg])]
    rw [sumR_const (c := g v) (fun t t1 t2 => by
      simp only [val]
      rw [if_pos (by omega)])]
    rw [sumR_congr (g := fun t => g (val d l t)) (fun t t1 t2 => by
      simp only [val]
      rw [if_neg (by omega)])]
    rw [sum_steps hg h4 (fun p hp => by
      have := hb p (List.mem_cons_of_mem _ hp)
      omega)]
    simp only [sumS]
    rw [hb']
    simp

end

end Go.Proofs.Ytclnepijbnhdfaa
