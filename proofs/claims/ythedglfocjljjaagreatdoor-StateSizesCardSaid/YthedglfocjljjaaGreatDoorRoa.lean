/-
  Step functions on the integers as lists of steps (from, to, value): each step function has one canonical list; joining adjacent steps of equal value; sums over steps.
-/
import Derived.Lib.Hide
import Derived.Test.YthedglfocjljjaaGreatDoorMga
namespace Go.Proofs.YthedglfocjljjaaGreatDoor.Rgn

section
variable {V : Type}

def val (d : V) : List (Int × Int × V) → Int → V
  | [], _ => d
  | (lo, hi, v) :: l, t => if lo ≤ t ∧ t < hi then v else val d l t

def CanF (d : V) : Int → V → List (Int × Int × V) → Prop
  | _, _, [] => True
  | B, u, (lo, hi, v) :: l => B ≤ lo ∧ (lo = B → v ≠ u) ∧ v ≠ d ∧ lo < hi ∧ CanF d hi v l

def SortF (d : V) : Int → List (Int × Int × V) → Prop
  | _, [] => True
  | B, (lo, hi, v) :: l => B ≤ lo ∧ v ≠ d ∧ lo < hi ∧ SortF d hi l

theorem CanF.sort {d : V} : ∀ {l : List (Int × Int × V)} {B : Int} {u : V}, CanF d B u l → SortF d B l
  | [], _, _, _ => trivial
  | (_, _, _) :: _, _, _, h => ⟨h.1, h.2.2.1, h.2.2.2.1, CanF.sort h.2.2.2.2⟩

theorem SortF.mono {d : V} {l : List (Int × Int × V)} {B C : Int} (h : SortF d B l) (hc : C ≤ B) : SortF d C l := by
  cases l with
  | nil => trivial
  | cons p l =>
    obtain ⟨lo, hi, v⟩ := p
    exact ⟨Int.le_trans hc h.1, h.2⟩

theorem CanF.mono {d : V} {l : List (Int × Int × V)} {B C : Int} {u u' : V} (h : CanF d B u l) (hc : C < B) : CanF d C u' l := by
  cases l with
  | nil => trivial
  | cons p l =>
    obtain ⟨lo, hi, v⟩ := p
    exact ⟨by have := h.1; omega, fun e => by have := h.1; omega, h.2.2⟩

theorem CanF.free {d : V} {l : List (Int × Int × V)} {B C : Int} {u : V} (h : CanF d B u l) (hc : C ≤ B) : CanF d C d l := by
  cases l with
  | nil => trivial
  | cons p l =>
    obtain ⟨lo, hi, v⟩ := p
    exact ⟨by have := h.1; omega, fun _ => h.2.2.1, h.2.2⟩

theorem CanF.turn {d : V} {l : List (Int × Int × V)} {B : Int} {u u' : V} (h : CanF d B u l) (hu : val d l B ≠ u' ∨ u' = d) : CanF d B u' l := by
  cases l with
  | nil => trivial
  | cons p l =>
    obtain ⟨lo, hi, v⟩ := p
    obtain ⟨h1, h2, h3, h4, h5⟩ := h
    refine ⟨h1, fun e => ?_, h3, h4, h5⟩
    rcases hu with hu | rfl
    · simp only [val] at hu
      rw [if_pos (by omega)] at hu
      exact hu
    · exact h3

theorem val_low {d : V} : ∀ {l : List (Int × Int × V)} {B : Int}, SortF d B l → ∀ {t : Int}, t < B → val d l t = d
  | [], _, _, _, _ => rfl
  | (lo, hi, v) :: l, B, h, t, ht => by
    obtain ⟨h1, h2, h3, h4⟩ := h
    simp only [val]
    rw [if_neg (by omega)]
    exact val_low h4 (by omega)

theorem can_unique {d : V} : ∀ {l m : List (Int × Int × V)} {B : Int} {u : V}, CanF d B u l → CanF d B u m → (∀ t, B ≤ t → val d l t = val d m t) → l = m
  | [], [], _, _, _, _, _ => rfl
  | [], (lo, hi, v) :: m, B, u, _, hm, h => by
    obtain ⟨h1, h2, h3, h4, h5⟩ := hm
    have := h lo h1
    simp only [val] at this
    rw [if_pos (by omega)] at this
    exact absurd this.symm h3
  | (lo, hi, v) :: l, [], B, u, hl, _, h => by
    obtain ⟨h1, h2, h3, h4, h5⟩ := hl
    have := h lo h1
    simp only [val] at this
    rw [if_pos (by omega)] at this
    exact absurd this h3
  | (lo, hi, v) :: l, (lo', hi', v') :: m, B, u, hl, hm, h => by
    obtain ⟨h1, h2, h3, h4, h5⟩ := hl
    obtain ⟨k1, k2, k3, k4, k5⟩ := hm
    have el : lo = lo' := by
      rcases Int.lt_trichotomy lo lo' with e | e | e
      · have := h lo h1
        simp only [val] at this
        rw [if_pos (by omega), if_neg (by omega), val_low k5.sort (by omega)] at this
        exact absurd this h3
      · exact e
      · have := h lo' k1
        simp only [val] at this
        rw [if_pos (by omega : lo' ≤ lo' ∧ lo' < hi'), if_neg (by omega), val_low h5.sort (by omega)] at this
        exact absurd this.symm k3
    subst el
    have ev : v = v' := by
      have := h lo h1
      simp only [val] at this
      rwa [if_pos (by omega), if_pos (by omega)] at this
    subst ev
    have nx : ∀ {a : Int} {l : List (Int × Int × V)}, CanF d a v l → val d l a ≠ v := fun {a l} hc => by
      cases l with
      | nil => exact fun e => h3 e.symm
      | cons p l =>
        obtain ⟨x, y, z⟩ := p
        obtain ⟨c1, c2, c3, c4, c5⟩ := hc
        simp only [val]
        by_cases e : x = a
        · rw [if_pos (by omega)]
          exact c2 e
        · rw [if_neg (by omega), val_low c5.sort (by omega)]
          exact fun e => h3 e.symm
    have eh : hi = hi' := by
      rcases Int.lt_trichotomy hi hi' with e | e | e
      · have := h hi (by omega)
        simp only [val] at this
        rw [if_neg (by omega), if_pos (by omega)] at this
        exact absurd this (nx h5)
      · exact e
      · have := h hi' (by omega)
        simp only [val] at this
        rw [if_pos (by omega), if_neg (by omega)] at this
        exact absurd this.symm (nx k5)
    subst eh
    rw [can_unique h5 k5 (fun t ht => by
      have := h t (by omega)
      simp only [val] at this
      rwa [if_neg (by omega), if_neg (by omega)] at this)]

theorem can_exists (d : V) : ∀ (n : Nat) (B : Int) (f : Int → V), (∀ t, B + n ≤ t → f t = d) → ∃ l, CanF d B d l ∧ ∀ t, B ≤ t → val d l t = f t
  | 0, B, f, h => ⟨[], trivial, fun t ht => (h t (by omega)).symm⟩
  | n + 1, B, f, h => by
    obtain ⟨l, hl, hv⟩ := can_exists d n (B + 1) f (fun t ht => h t (by omega))
    by_cases hd : f B = d
    · refine ⟨l, hl.free (by omega), fun t ht => ?_⟩
      by_cases e : t = B
      · rw [e, val_low hl.sort (by omega), hd]
      · exact hv t (by omega)
    · by_cases hn : val d l (B + 1) = f B
      · cases l with
        | nil => exact absurd hn.symm hd
        | cons p l =>
          obtain ⟨lo, hi, v⟩ := p
          obtain ⟨h1, h2, h3, h4, h5⟩ := hl
          have e : lo = B + 1 := by
            rcases (by omega : B + 1 < lo ∨ lo ≤ B + 1) with e | e
            · simp only [val] at hn
              rw [if_neg (by omega), val_low h5.sort (by omega)] at hn
              exact absurd hn.symm hd
            · omega
          subst e
          have ev : v = f B := by
            simp only [val] at hn
            rwa [if_pos (by omega)] at hn
          subst ev
          refine ⟨(B, hi, f B) :: l, ⟨Int.le_refl _, fun _ => hd, hd, by omega, h5⟩, fun t ht => ?_⟩
          by_cases e : t = B
          · subst e
            simp only [val]
            rw [if_pos (by omega)]
          · have := hv t (by omega)
            simp only [val] at this ⊢
            by_cases e2 : t < hi
            · rw [if_pos (by omega)] at this ⊢
              exact this
            · rw [if_neg (by omega)] at this ⊢
              exact this
      · refine ⟨(B, B + 1, f B) :: l, ⟨Int.le_refl _, fun _ => hd, hd, by omega, hl.turn (.inl hn)⟩, fun t ht => ?_⟩
        simp only [val]
        by_cases e : t = B
        · rw [if_pos (by omega), e]
        · rw [if_neg (by omega)]
          exact hv t (by omega)

def comp [DecidableEq V] : Int × Int × V → List (Int × Int × V) → List (Int × Int × V)
  | c, [] => [c]
  | (lo, hi, v), (lo', hi', v') :: l => if hi = lo' ∧ v = v' then comp (lo, hi', v) l else (lo, hi, v) :: comp (lo', hi', v') l

theorem comp_ok [DecidableEq V] {d : V} : ∀ {l : List (Int × Int × V)} {lo hi : Int} {v : V} {B : Int} {u : V}, B ≤ lo → (lo = B → v ≠ u) → v ≠ d → lo < hi → SortF d hi l →
    CanF d B u (comp (lo, hi, v) l) ∧ ∀ t, val d (comp (lo, hi, v) l) t = val d ((lo, hi, v) :: l) t
  | [], lo, hi, v, B, u, h1, h2, h3, h4, _ => ⟨⟨h1, h2, h3, h4, trivial⟩, fun _ => rfl⟩
  | (lo', hi', v') :: l, lo, hi, v, B, u, h1, h2, h3, h4, h5 => by
    obtain ⟨k1, k2, k3, k4⟩ := h5
    unfold comp
    by_cases e : hi = lo' ∧ v = v'
    · rw [if_pos e]
      obtain ⟨rfl, rfl⟩ := e
      obtain ⟨c1, c2⟩ := comp_ok (l := l) (lo := lo) (hi := hi') h1 h2 h3 (by omega) k4
      refine ⟨c1, fun t => ?_⟩
      rw [c2 t]
      simp only [val]
      by_cases e1 : lo ≤ t ∧ t < hi
      · rw [if_pos e1, if_pos (by omega)]
      · rw [if_neg e1]
        by_cases e2 : hi ≤ t ∧ t < hi'
        · rw [if_pos e2, if_pos (by omega)]
        · rw [if_neg e2, if_neg (by omega)]
    · rw [if_neg e]
      obtain ⟨c1, c2⟩ := comp_ok (l := l) (lo := lo') (hi := hi') (B := hi) (u := v) k1 (fun e1 e2 => e ⟨e1.symm, e2.symm⟩) k2 k3 k4
      refine ⟨⟨h1, h2, h3, h4, c1⟩, fun t => ?_⟩
      simp only [val]
      rw [c2 t]
      simp only [val]

def comps [DecidableEq V] : List (Int × Int × V) → List (Int × Int × V)
  | [] => []
  | c :: l => comp c l

theorem comps_ok [DecidableEq V] {d : V} {l : List (Int × Int × V)} {B : Int} (h : SortF d B l) : CanF d B d (comps l) ∧ ∀ t, val d (comps l) t = val d l t := by
  cases l with
  | nil => exact ⟨trivial, fun _ => rfl⟩
  | cons p l =>
    obtain ⟨lo, hi, v⟩ := p
    obtain ⟨h1, h2, h3, h4⟩ := h
    exact comp_ok h1 (fun _ => h2) h2 h3 h4

end


def sumR : Nat → Int → (Int → Int) → Int
  | 0, _, _ => 0
  | n + 1, A, h => h A + sumR n (A + 1) h

theorem sumR_congr : ∀ {n : Nat} {A : Int} {f g : Int → Int}, (∀ t, A ≤ t → t < A + n → f t = g t) → sumR n A f = sumR n A g
  | 0, _, _, _, _ => rfl
  | n + 1, A, f, g, h => by
    simp only [sumR]
    rw [h A (by omega) (by omega), sumR_congr (fun t h1 h2 => h t (by omega) (by omega))]

theorem sumR_zero : ∀ {n : Nat} {A : Int} {f : Int → Int}, (∀ t, A ≤ t → t < A + n → f t = 0) → sumR n A f = 0
  | 0, _, _, _ => rfl
  | n + 1, A, f, h => by
    simp only [sumR]
    rw [h A (by omega) (by omega), sumR_zero (fun t h1 h2 => h t (by omega) (by omega))]
    rfl

theorem sumR_add : ∀ {n : Nat} {A : Int} {f g : Int → Int}, sumR n A (fun t => f t + g t) = sumR n A f + sumR n A g
  | 0, _, _, _ => rfl
  | n + 1, A, f, g => by
    simp only [sumR]
    rw [sumR_add]
    omega

theorem sumR_split : ∀ {m n : Nat} {A : Int} {f : Int → Int}, sumR (m + n) A f = sumR m A f + sumR n (A + m) f
  | 0, n, A, f => by simp [sumR]
  | m + 1, n, A, f => by
    rw [show m + 1 + n = (m + n) + 1 by omega]
    simp only [sumR]
    rw [sumR_split, show A + 1 + (m : Int) = A + ((m + 1 : Nat) : Int) by omega]
    omega

theorem sumR_const : ∀ {n : Nat} {A c : Int} {f : Int → Int}, (∀ t, A ≤ t → t < A + n → f t = c) → sumR n A f = n * c
  | 0, _, _, _, _ => by simp [sumR]
  | n + 1, A, c, f, h => by
    simp only [sumR]
    rw [h A (by omega) (by omega), sumR_const (fun t h1 h2 => h t (by omega) (by omega)), Int.natCast_add, Int.add_mul]
    simp
    omega

theorem sumR_le {c : Int} : ∀ {n : Nat} {A : Int} {f : Int → Int}, (∀ t, A ≤ t → t < A + n → 0 ≤ f t ∧ f t ≤ c) → 0 ≤ sumR n A f ∧ sumR n A f ≤ n * c
  | 0, _, _, _ => by simp [sumR]
  | n + 1, A, f, h => by
    simp only [sumR]
    have h0 := h A (by omega) (by omega)
    have ih := sumR_le (c := c) (n := n) (A := A + 1) (f := f) (fun t h1 h2 => h t (by omega) (by omega))
    rw [Int.natCast_add, Int.add_mul]
    simp
    omega

section
variable {V : Type}

def sumS (g : V → Int) : List (Int × Int × V) → Int
  | [] => 0
  | (lo, hi, v) :: l => (hi - lo) * g v + sumS g l

theorem sum_steps {d : V} {g : V → Int} (hg : g d = 0) : ∀ {l : List (Int × Int × V)} {n : Nat} {A : Int}, SortF d A l → (∀ p ∈ l, p.2.1 ≤ A + n) → sumR n A (fun t => g (val d l t)) = sumS g l
  | [], n, A, _, _ => by
    simp only [val, sumS]
    exact sumR_zero (fun _ _ _ => hg)
  | (lo, hi, v) :: l, n, A, h, hb => by
    obtain ⟨h1, h2, h3, h4⟩ := h
    have hb1 := hb (lo, hi, v) List.mem_cons_self
    simp only at hb1
    obtain ⟨a, ha⟩ := Int.eq_ofNat_of_zero_le (by omega : 0 ≤ lo - A)
    obtain ⟨b, hb'⟩ := Int.eq_ofNat_of_zero_le (by omega : 0 ≤ hi - lo)
    obtain ⟨c, hc⟩ := Int.eq_ofNat_of_zero_le (by omega : 0 ≤ A + n - hi)
    have en : n = a + (b + c) := by omega
    rw [en, sumR_split, sumR_split, show A + (a : Int) = lo by omega, show lo + (b : Int) = hi by omega]
    rw [sumR_zero (fun t t1 t2 => by
      simp only [val]
      rw [if_neg (by omega), val_low h4 (by omega), hg])]
    rw [sumR_const (c := g v) (fun t t1 t2 => by
      simp only [val]
      rw [if_pos (by omega)])]
    rw [sumR_congr (g := fun t => g (val d l t)) (fun t t1 t2 => by
      simp only [val]
      rw [if_neg (by omega)])]
    rw [sum_steps hg h4 (fun p hp => by
      have := hb p (List.mem_cons_of_mem _ hp)
      omega)]
    simp only [sumS]
    rw [hb']
    simp

end

abbrev Runs := List (Int × Int)
abbrev Band := Int × Int × Runs

def withT (rs : Runs) : List (Int × Int × Bool) := rs.map fun p => (p.1, p.2, true)

theorem withT_inj : ∀ {a b : Runs}, withT a = withT b → a = b
  | [], [], _ => rfl
  | [], _ :: _, h => by simp [withT] at h
  | _ :: _, [], h => by simp [withT] at h
  | (p, q) :: a, (r, s) :: b, h => by
    simp only [withT, List.map_cons, List.cons.injEq, Prod.mk.injEq] at h
    rw [h.1.1, h.1.2.1, withT_inj h.2]

def RunsOf (f : Int → Bool) (rs : Runs) : Prop := (∃ B, CanF false B false (withT rs)) ∧ ∀ x, val false (withT rs) x = f x

theorem runs_unique {f : Int → Bool} {a b : Runs} (ha : RunsOf f a) (hb : RunsOf f b) : a = b := by
  obtain ⟨⟨A, ha⟩, va⟩ := ha
  obtain ⟨⟨B, hb⟩, vb⟩ := hb
  exact withT_inj (can_unique (B := min A B) (u := false) (ha.free (by omega)) (hb.free (by omega)) (fun t _ => by rw [va, vb]))

theorem runs_exists {f : Int → Bool} {A : Int} {n : Nat} (h : ∀ x, f x = true → A ≤ x ∧ x < A + n) : ∃ rs, RunsOf f rs := by
  obtain ⟨l, hl, hv⟩ := can_exists false n A f (fun t ht => by
    cases e : f t
    · rfl
    · have := h t e; omega)
  have all : ∀ {l : List (Int × Int × Bool)} {B : Int} {u : Bool}, CanF false B u l → ∃ rs, l = withT rs := fun {l} => by
    induction l with
    | nil => exact fun _ => ⟨[], rfl⟩
    | cons p l ih =>
      obtain ⟨lo, hi, v⟩ := p
      rintro B u ⟨h1, h2, h3, h4, h5⟩
      obtain ⟨rs, rfl⟩ := ih h5
      refine ⟨(lo, hi) :: rs, ?_⟩
      cases v
      · exact absurd rfl h3
      · rfl
  obtain ⟨rs, rfl⟩ := all hl
  refine ⟨rs, ⟨A, hl⟩, fun x => ?_⟩
  by_cases hx : A ≤ x
  · exact hv x hx
  · rw [val_low hl.sort (by omega)]
    cases e : f x
    · rfl
    · have := h x e; omega

theorem runs_nil {f : Int → Bool} (h : ∀ x, f x = false) : RunsOf f [] := ⟨⟨0, trivial⟩, fun x => (h x).symm⟩

theorem runs_empty {f : Int → Bool} (h : RunsOf f []) : ∀ x, f x = false := fun x => (h.2 x).symm

theorem RunsOf.congr {f g : Int → Bool} {rs : Runs} (h : RunsOf f rs) (e : ∀ x, f x = g x) : RunsOf g rs := ⟨h.1, fun x => (h.2 x).trans (e x)⟩

def bandR (b : Band) : List R := b.2.2.map fun p => ⟨p.1, b.1, p.2, b.2.1⟩
def flatB (bs : List Band) : List R := bs.flatMap bandR

def Strips (S : Int → Int → Bool) (L : List Band) : Prop := (∃ B, SortF [] B L) ∧ ∀ y, RunsOf (fun x => S x y) (val [] L y)

def Region (S : Int → Int → Bool) (l : List R) : Prop := ∃ bs, l = flatB bs ∧ (∃ B, CanF [] B [] bs) ∧ ∀ y, RunsOf (fun x => S x y) (val [] bs y)

def Inside (S : Int → Int → Bool) : Prop := ∀ x y, S x y = true → (-16384 ≤ x ∧ x < 16384) ∧ (-16384 ≤ y ∧ y < 16384)

theorem region_unique {S : Int → Int → Bool} {l m : List R} (hl : Region S l) (hm : Region S m) : l = m := by
  obtain ⟨a, rfl, ⟨A, ha⟩, va⟩ := hl
  obtain ⟨b, rfl, ⟨B, hb⟩, vb⟩ := hm
  rw [can_unique (B := min A B) (u := []) (ha.free (by omega)) (hb.free (by omega)) (fun t _ => runs_unique (va t) (vb t))]

theorem Region.congr {S T : Int → Int → Bool} {l : List R} (h : Region S l) (e : ∀ x y, S x y = T x y) : Region T l := by
  have : S = T := funext fun x => funext fun y => e x y
  rwa [← this]

theorem region_of_strips {S : Int → Int → Bool} {L : List Band} (h : Strips S L) : Region S (flatB (comps L)) := by
  obtain ⟨⟨B, hs⟩, hv⟩ := h
  obtain ⟨h1, h2⟩ := comps_ok hs
  exact ⟨comps L, rfl, ⟨B, h1⟩, fun y => by rw [h2]; exact hv y⟩

theorem rows_exist {S : Int → Int → Bool} (h : Inside S) : ∃ rr : Int → Runs, ∀ y, RunsOf (fun x => S x y) (rr y) :=
  ⟨fun y => Classical.choose (runs_exists (f := fun x => S x y) (A := -16384) (n := 32768) (fun x hx => by have := h x y hx; omega)), fun y => Classical.choose_spec (runs_exists (f := fun x => S x y) (A := -16384) (n := 32768) (fun x hx => by have := h x y hx; omega))⟩

theorem strips_exist {S : Int → Int → Bool} (h : Inside S) : ∃ L, Strips S L := by
  obtain ⟨rr, hr⟩ := rows_exist h
  obtain ⟨l, hl, hv⟩ := can_exists ([] : Runs) 32768 (-16384) rr (fun t ht => by
    refine runs_unique (hr t) (runs_nil fun x => ?_)
    cases e : S x t
    · rfl
    · have := h x t e; omega)
  refine ⟨l, ⟨-16384, hl.sort⟩, fun y => ?_⟩
  by_cases hy : -16384 ≤ y
  · rw [hv y hy]
    exact hr y
  · rw [val_low hl.sort (by omega)]
    refine runs_nil fun x => ?_
    cases e : S x y
    · rfl
    · have := h x y e; omega

theorem region_exists {S : Int → Int → Bool} (h : Inside S) : ∃ l, Region S l := by
  obtain ⟨L, hL⟩ := strips_exist h
  exact ⟨_, region_of_strips hL⟩

section
variable {V : Type}

theorem SortF.tail_from {d : V} {l : List (Int × Int × V)} {B : Int} (h : SortF d B l) : ∀ p ∈ l, B ≤ p.1 ∧ p.2.2 ≠ d ∧ p.1 < p.2.1 ∧ ∀ t, p.1 ≤ t → t < p.2.1 → val d l t = p.2.2 := by
  induction l generalizing B with
  | nil => simp
  | cons q l ih =>
    obtain ⟨lo, hi, v⟩ := q
    obtain ⟨h1, h2, h3, h4⟩ := h
    intro p hp
    rcases List.mem_cons.1 hp with rfl | hp
    · refine ⟨h1, h2, h3, fun t t1 t2 => ?_⟩
      simp only at t1 t2
      simp only [val]
      rw [if_pos ⟨t1, t2⟩]
    · obtain ⟨k1, k2, k3, k4⟩ := ih h4 p hp
      refine ⟨by omega, k2, k3, fun t t1 t2 => ?_⟩
      simp only [val]
      rw [if_neg (by omega)]
      exact k4 t t1 t2

theorem SortF.within {d : V} {l : List (Int × Int × V)} {B A C : Int} (h : SortF d B l) (hs : ∀ t, val d l t ≠ d → A ≤ t ∧ t < C) : SortF d A l ∧ ∀ p ∈ l, A ≤ p.1 ∧ p.2.1 ≤ C := by
  have all := h.tail_from
  have hw : ∀ p ∈ l, A ≤ p.1 ∧ p.2.1 ≤ C := fun p hp => by
    obtain ⟨k1, k2, k3, k4⟩ := all p hp
    have e1 := hs p.1 (by rw [k4 p.1 (by omega) k3]; exact k2)
    have e2 := hs (p.2.1 - 1) (by rw [k4 (p.2.1 - 1) (by omega) (by omega)]; exact k2)
    omega
  refine ⟨?_, hw⟩
  cases l with
  | nil => trivial
  | cons q l =>
    have := hw q List.mem_cons_self
    obtain ⟨lo, hi, v⟩ := q
    exact ⟨this.1, h.2⟩

theorem val_ne {d : V} {l : List (Int × Int × V)} {t : Int} (h : val d l t ≠ d) : ∃ p ∈ l, p.1 ≤ t ∧ t < p.2.1 := by
  induction l with
  | nil => exact absurd rfl h
  | cons q l ih =>
    obtain ⟨lo, hi, v⟩ := q
    simp only [val] at h
    by_cases e : lo ≤ t ∧ t < hi
    · exact ⟨(lo, hi, v), List.mem_cons_self, e⟩
    · rw [if_neg e] at h
      obtain ⟨p, hp, hh⟩ := ih h
      exact ⟨p, List.mem_cons_of_mem _ hp, hh⟩

end

theorem runs_in {f : Int → Bool} {rs : Runs} (h : RunsOf f rs) (x : Int) : f x = true ↔ ∃ p ∈ rs, p.1 ≤ x ∧ x < p.2 := by
  obtain ⟨⟨B, hc⟩, hv⟩ := h
  rw [← hv x]
  constructor
  · intro e
    obtain ⟨p, hp, hh⟩ := val_ne (d := false) (l := withT rs) (t := x) (by rw [e]; decide)
    obtain ⟨q, hq, rfl⟩ := List.mem_map.1 hp
    exact ⟨q, hq, hh⟩
  · rintro ⟨p, hp, h1, h2⟩
    exact (hc.sort.tail_from (p.1, p.2, true) (List.mem_map.2 ⟨p, hp, rfl⟩)).2.2.2 x h1 h2

theorem runs_bounds {f : Int → Bool} {rs : Runs} (h : RunsOf f rs) {A C : Int} (hs : ∀ x, f x = true → A ≤ x ∧ x < C) : ∀ p ∈ rs, A ≤ p.1 ∧ p.1 < p.2 ∧ p.2 ≤ C := fun p hp => by
  obtain ⟨⟨B, hc⟩, hv⟩ := h
  have hm : (p.1, p.2, true) ∈ withT rs := List.mem_map.2 ⟨p, hp, rfl⟩
  have h1 := hc.sort.tail_from _ hm
  have h2 := (hc.sort.within (A := A) (C := C) (fun t ht => hs t (by rw [← hv t]; cases e : val false (withT rs) t; exact absurd e ht; rfl))).2 _ hm
  exact ⟨h2.1, h1.2.2.1, h2.2⟩

def inL (l : List R) (x y : Int) : Bool := l.any fun r => conB r x y

theorem inL_iff (l : List R) (x y : Int) : inL l x y = true ↔ ∃ r ∈ l, conB r x y = true := by simp [inL]

theorem mem_flatB {bs : List Band} {r : R} : r ∈ flatB bs ↔ ∃ b ∈ bs, ∃ p ∈ b.2.2, r = ⟨p.1, b.1, p.2, b.2.1⟩ := by
  simp only [flatB, bandR, List.mem_flatMap, List.mem_map]
  constructor
  · rintro ⟨b, hb, p, hp, rfl⟩
    exact ⟨b, hb, p, hp, rfl⟩
  · rintro ⟨b, hb, p, hp, rfl⟩
    exact ⟨b, hb, p, hp, rfl⟩

theorem strips_within {S : Int → Int → Bool} {L : List Band} (h : Strips S L) (hi : Inside S) : ∀ b ∈ L, (-16384 ≤ b.1 ∧ b.1 < b.2.1 ∧ b.2.1 ≤ 16384) ∧ b.2.2 ≠ [] ∧ (∀ p ∈ b.2.2, -16384 ≤ p.1 ∧ p.1 < p.2 ∧ p.2 ≤ 16384) ∧ ∀ y, b.1 ≤ y → y < b.2.1 → RunsOf (fun x => S x y) b.2.2 := fun b hb => by
  obtain ⟨⟨B, hs⟩, hv⟩ := h
  obtain ⟨h1, h2, h3, h4⟩ := hs.tail_from b hb
  have hr : ∀ y, b.1 ≤ y → y < b.2.1 → RunsOf (fun x => S x y) b.2.2 := fun y y1 y2 => by rw [← h4 y y1 y2]; exact hv y
  have hw := (hs.within (A := -16384) (C := 16384) (fun t ht => by
    cases e : val [] L t with
    | nil => exact absurd e ht
    | cons p rs =>
      have h5 := hv t
      rw [e] at h5
      obtain ⟨⟨C, hc⟩, _⟩ := id h5
      have := hc.2.2.2.1
      have h6 := (runs_in h5 p.1).2 ⟨p, List.mem_cons_self, Int.le_refl _, this⟩
      exact (hi _ _ h6).2)).2 b hb
  exact ⟨⟨hw.1, h3, hw.2⟩, h2, runs_bounds (hr b.1 (Int.le_refl _) h3) (fun x hx => (hi _ _ hx).1), hr⟩

theorem strips_in {S : Int → Int → Bool} {L : List Band} (h : Strips S L) (hi : Inside S) (x y : Int) : inL (flatB L) x y = S x y := by
  have hw := strips_within h hi
  rw [Bool.eq_iff_iff, inL_iff]
  constructor
  · rintro ⟨r, hr, hc⟩
    obtain ⟨b, hb, p, hp, rfl⟩ := mem_flatB.1 hr
    obtain ⟨_, h1, h2, h3, h4⟩ := (con_iff _ _ _).1 hc
    simp only at h1 h2 h3 h4
    exact (runs_in ((hw b hb).2.2.2 y h3 h4) x).2 ⟨p, hp, h1, h2⟩
  · intro hs
    have hr := h.2 y
    obtain ⟨p, hp, h1, h2⟩ := (runs_in hr x).1 hs
    obtain ⟨b, hb, h3, h4⟩ := val_ne (d := ([] : Runs)) (l := L) (t := y) (fun e => by rw [e] at hp; cases hp)
    have hbv := (h.1.choose_spec.tail_from b hb).2.2.2 y h3 h4
    rw [hbv] at hp
    refine ⟨⟨p.1, b.1, p.2, b.2.1⟩, mem_flatB.2 ⟨b, hb, p, hp, rfl⟩, (con_iff _ _ _).2 ⟨(emp_no _).2 ?_, h1, h2, h3, h4⟩⟩
    obtain ⟨w1, _, w2, _⟩ := hw b hb
    have := w2 p hp
    simp only
    omega

theorem Region.strips {S : Int → Int → Bool} {l : List R} (h : Region S l) : ∃ L, l = flatB L ∧ Strips S L := by
  obtain ⟨bs, e, ⟨B, hc⟩, hv⟩ := h
  exact ⟨bs, e, ⟨B, hc.sort⟩, hv⟩

theorem region_in {S : Int → Int → Bool} {l : List R} (h : Region S l) (hi : Inside S) (x y : Int) : inL l x y = S x y := by
  obtain ⟨L, rfl, hL⟩ := h.strips
  exact strips_in hL hi x y

theorem region_full {S : Int → Int → Bool} {l : List R} (h : Region S l) (hi : Inside S) : ∀ r ∈ l, empB r = false := by
  obtain ⟨L, rfl, hL⟩ := h.strips
  intro r hr
  obtain ⟨b, hb, p, hp, rfl⟩ := mem_flatB.1 hr
  obtain ⟨w1, _, w2, _⟩ := strips_within hL hi b hb
  have := w2 p hp
  rw [emp_no]
  simp only
  omega

theorem inL_inside (l : List R) : Inside (inL l) := fun x y h => by
  obtain ⟨r, _, hc⟩ := (inL_iff _ _ _).1 h
  obtain ⟨he, h1, h2, h3, h4⟩ := (con_iff _ _ _).1 hc
  have := (emp_no _).1 he
  omega

def setS (op : Bool → Bool → Bool) (a b : List R) (x y : Int) : Bool := op (inL a x y) (inL b x y)

theorem setS_inside {op : Bool → Bool → Bool} (h : op false false = false) (a b : List R) : Inside (setS op a b) := fun x y hs => by
  unfold setS at hs
  cases ha : inL a x y
  · cases hb : inL b x y
    · rw [ha, hb, h] at hs
      cases hs
    · exact inL_inside b x y hb
  · exact inL_inside a x y ha

def width : Runs → Int
  | [] => 0
  | p :: rs => (p.2 - p.1) + width rs

def areaP (r : R) : Int := (r.x1 - r.x0) * (r.y1 - r.y0)
def sumP : List R → Int
  | [] => 0
  | r :: l => areaP r + sumP l

theorem sumP_append : ∀ l m : List R, sumP (l ++ m) = sumP l + sumP m
  | [], m => by simp [sumP]
  | r :: l, m => by simp only [List.cons_append, sumP, sumP_append l m]; omega

theorem sumP_band (b : Band) : sumP (bandR b) = (b.2.1 - b.1) * width b.2.2 := by
  obtain ⟨lo, hi, rs⟩ := b
  simp only [bandR]
  induction rs with
  | nil => simp [sumP, width]
  | cons p rs ih => simp only [List.map_cons, sumP, width, areaP, ih, Int.mul_add]; rw [Int.mul_comm]

theorem sumP_flat : ∀ L : List Band, sumP (flatB L) = sumS width L
  | [] => rfl
  | (lo, hi, rs) :: L => by
    have := sumP_flat L
    simp only [flatB, List.flatMap_cons, sumP_append, sumP_band, sumS] at this ⊢
    rw [this]

def one (b : Bool) : Int := if b then 1 else 0

def cnt (n : Nat) (A : Int) (S : Int → Int → Bool) : Int := sumR n A fun y => sumR n A fun x => one (S x y)

theorem sum_withT : ∀ rs : Runs, sumS one (withT rs) = width rs
  | [] => rfl
  | p :: rs => by
    have := sum_withT rs
    simp only [withT, List.map_cons, sumS, width] at this ⊢
    rw [this]
    simp [one]

theorem width_runs {f : Int → Bool} {rs : Runs} (h : RunsOf f rs) {n : Nat} {A : Int} (hs : ∀ x, f x = true → A ≤ x ∧ x < A + n) : sumR n A (fun x => one (f x)) = width rs := by
  obtain ⟨⟨B, hc⟩, hv⟩ := h
  obtain ⟨h1, h2⟩ := hc.sort.within (A := A) (C := A + n) (fun t ht => hs t (by rw [← hv t]; cases e : val false (withT rs) t; exact absurd e ht; rfl))
  rw [← sum_withT, ← sum_steps (d := false) (g := one) rfl h1 (fun p hp => (h2 p hp).2)]
  exact sumR_congr fun t _ _ => by rw [hv]

theorem area_strips {S : Int → Int → Bool} {L : List Band} (h : Strips S L) {n : Nat} {A : Int} (hs : ∀ x y, S x y = true → (A ≤ x ∧ x < A + n) ∧ (A ≤ y ∧ y < A + n)) : sumP (flatB L) = cnt n A S := by
  obtain ⟨⟨B, hc⟩, hv⟩ := h
  have hw := hc.within (A := A) (C := A + n) (fun t ht => by
    cases e : val [] L t with
    | nil => exact absurd e ht
    | cons p rs =>
      have h5 := hv t
      rw [e] at h5
      obtain ⟨⟨C, hc⟩, _⟩ := id h5
      have := hc.2.2.2.1
      have h6 := (runs_in h5 p.1).2 ⟨p, List.mem_cons_self, Int.le_refl _, this⟩
      exact (hs _ _ h6).2)
  rw [sumP_flat, ← sum_steps (d := ([] : Runs)) (g := width) rfl hw.1 (fun p hp => (hw.2 p hp).2)]
  exact sumR_congr fun t _ _ => (width_runs (hv t) (fun x hx => (hs x t hx).1)).symm

theorem cnt_add {n : Nat} {A : Int} {S T U W : Int → Int → Bool} (h : ∀ x y, one (S x y) + one (T x y) = one (U x y) + one (W x y)) : cnt n A S + cnt n A T = cnt n A U + cnt n A W := by
  unfold cnt
  rw [← sumR_add, ← sumR_add]
  refine sumR_congr fun y _ _ => ?_
  rw [← sumR_add, ← sumR_add]
  exact sumR_congr fun x _ _ => h x y

theorem cnt_none {n : Nat} {A : Int} {S : Int → Int → Bool} (h : ∀ x y, S x y = false) : cnt n A S = 0 :=
  sumR_zero fun y _ _ => sumR_zero fun x _ _ => by rw [h]; rfl

theorem cnt_le {n : Nat} {A : Int} (S : Int → Int → Bool) : 0 ≤ cnt n A S ∧ cnt n A S ≤ n * (n * 1) := by
  refine sumR_le fun y _ _ => sumR_le fun x _ _ => ?_
  unfold one
  split <;> omega

structure E where
  x : Int
  a : Int
  b : Int

abbrev Op2 := Bool → Bool → Bool

def runsGo (op : Op2) : List E → Int → Int → Option Int → Runs
  | [], _, _, none => []
  | [], _, _, some s => [(s, 0)]
  | e :: es, na, nb, none => if op (decide (0 < na + e.a)) (decide (0 < nb + e.b)) then runsGo op es (na + e.a) (nb + e.b) (some e.x) else runsGo op es (na + e.a) (nb + e.b) none
  | e :: es, na, nb, some s => if op (decide (0 < na + e.a)) (decide (0 < nb + e.b)) then runsGo op es (na + e.a) (nb + e.b) (some s) else (s, e.x) :: runsGo op es (na + e.a) (nb + e.b) none

def cntLe (g : E → Int) (x : Int) : List E → Int
  | [] => 0
  | e :: l => (if e.x ≤ x then g e else 0) + cntLe g x l

def tot (g : E → Int) : List E → Int
  | [] => 0
  | e :: l => g e + tot g l

def wt : List E → Nat
  | [] => 0
  | e :: l => e.a.natAbs + e.b.natAbs + wt l

abbrev Inc (l : List E) : Prop := l.Pairwise fun p q => p.x < q.x

theorem cntLe_append (g : E → Int) (x : Int) : ∀ l m : List E, cntLe g x (l ++ m) = cntLe g x l + cntLe g x m
  | [], m => by simp [cntLe]
  | e :: l, m => by simp only [List.cons_append, cntLe, cntLe_append g x l m]; omega

theorem cntLe_low {g : E → Int} {x : Int} : ∀ {l : List E}, (∀ e ∈ l, x < e.x) → cntLe g x l = 0
  | [], _ => rfl
  | e :: l, h => by
    simp only [cntLe]
    rw [if_neg (by have := h e List.mem_cons_self; omega), cntLe_low (fun e' he => h e' (List.mem_cons_of_mem _ he))]
    rfl

theorem cntLe_high {g : E → Int} {x : Int} : ∀ {l : List E}, (∀ e ∈ l, e.x ≤ x) → cntLe g x l = tot g l
  | [], _ => rfl
  | e :: l, h => by
    simp only [cntLe, tot]
    rw [if_pos (h e List.mem_cons_self), cntLe_high (fun e' he => h e' (List.mem_cons_of_mem _ he))]

theorem cntLe_perm {g : E → Int} {x : Int} {l m : List E} (h : l.Perm m) : cntLe g x l = cntLe g x m := by
  induction h with
  | nil => rfl
  | cons e _ ih => simp only [cntLe, ih]
  | swap e f l => simp only [cntLe]; omega
  | trans _ _ ih1 ih2 => rw [ih1, ih2]

theorem wt_append : ∀ l m : List E, wt (l ++ m) = wt l + wt m
  | [], m => by simp [wt]
  | e :: l, m => by simp only [List.cons_append, wt, wt_append l m]; omega

theorem wt_perm {l m : List E} (h : l.Perm m) : wt l = wt m := by
  induction h with
  | nil => rfl
  | cons e _ ih => simp only [wt, ih]
  | swap e f l => simp only [wt]; omega
  | trans _ _ ih1 ih2 => rw [ih1, ih2]

theorem withT_cons (p : Int × Int) (rs : Runs) : withT (p :: rs) = (p.1, p.2, true) :: withT rs := rfl

theorem runs_go {op : Op2} (h0 : op false false = false) : ∀ (es : List E) (na nb B : Int), Inc es → (∀ e ∈ es, B ≤ e.x) → na + tot E.a es = 0 → nb + tot E.b es = 0 →
    (op (decide (0 < na)) (decide (0 < nb)) = false → CanF false B false (withT (runsGo op es na nb none)) ∧ ∀ x, B ≤ x → val false (withT (runsGo op es na nb none)) x = op (decide (0 < na + cntLe E.a x es)) (decide (0 < nb + cntLe E.b x es))) ∧
    (∀ s, s < B → op (decide (0 < na)) (decide (0 < nb)) = true → CanF false s false (withT (runsGo op es na nb (some s))) ∧
      ∀ x, s ≤ x → val false (withT (runsGo op es na nb (some s))) x = if x < B then true else op (decide (0 < na + cntLe E.a x es)) (decide (0 < nb + cntLe E.b x es)))
  | [], na, nb, B, _, _, ta, tb => by
    simp only [tot, Int.add_zero] at ta tb
    subst ta
    subst tb
    refine ⟨fun h => ⟨trivial, fun x _ => ?_⟩, fun s _ h => ?_⟩
    · simp only [runsGo, withT, List.map_nil, val, cntLe]
      exact h.symm
    · simp [h0] at h
  | e :: es, na, nb, B, hi, hB, ta, tb => by
    have hBe := hB e List.mem_cons_self
    obtain ⟨hx, hi'⟩ := List.pairwise_cons.1 hi
    simp only [tot] at ta tb
    obtain ⟨ih1, ih2⟩ := runs_go h0 es (na + e.a) (nb + e.b) (e.x + 1) hi' (fun e' he => by have := hx e' he; omega) (by omega) (by omega)
    have lowa : ∀ x, x < e.x → cntLe E.a x es = 0 := fun x h => cntLe_low (fun e' he => by have := hx e' he; omega)
    have lowb : ∀ x, x < e.x → cntLe E.b x es = 0 := fun x h => cntLe_low (fun e' he => by have := hx e' he; omega)
    have lowa' : ∀ x, x ≤ e.x → cntLe E.a x es = 0 := fun x h => cntLe_low (fun e' he => by have := hx e' he; omega)
    have lowb' : ∀ x, x ≤ e.x → cntLe E.b x es = 0 := fun x h => cntLe_low (fun e' he => by have := hx e' he; omega)
    have sa : ∀ x, e.x ≤ x → na + cntLe E.a x (e :: es) = na + e.a + cntLe E.a x es := fun x h => by simp only [cntLe]; rw [if_pos h]; omega
    have sb : ∀ x, e.x ≤ x → nb + cntLe E.b x (e :: es) = nb + e.b + cntLe E.b x es := fun x h => by simp only [cntLe]; rw [if_pos h]; omega
    have za : ∀ x, x < e.x → na + cntLe E.a x (e :: es) = na := fun x h => by simp only [cntLe]; rw [if_neg (by omega), lowa x h]; omega
    have zb : ∀ x, x < e.x → nb + cntLe E.b x (e :: es) = nb := fun x h => by simp only [cntLe]; rw [if_neg (by omega), lowb x h]; omega
    cases hk : op (decide (0 < na + e.a)) (decide (0 < nb + e.b))
    · obtain ⟨c1, c2⟩ := ih1 hk
      have low : ∀ x, x < e.x + 1 → val false (withT (runsGo op es (na + e.a) (nb + e.b) none)) x = false := fun x h => val_low c1.sort h
      have at_x : ∀ x, e.x ≤ x → val false (withT (runsGo op es (na + e.a) (nb + e.b) none)) x = op (decide (0 < na + cntLe E.a x (e :: es))) (decide (0 < nb + cntLe E.b x (e :: es))) := fun x h => by
        rw [sa x h, sb x h]
        by_cases e1 : x = e.x
        · rw [low x (by omega), lowa' x (by omega), lowb' x (by omega), Int.add_zero, Int.add_zero, hk]
        · exact c2 x (by omega)
      refine ⟨fun h => ?_, fun s hs h => ?_⟩
      · simp only [runsGo, hk, Bool.false_eq_true, if_false]
        refine ⟨c1.free (by omega), fun x hx' => ?_⟩
        by_cases e1 : x < e.x
        · rw [low x (by omega), za x e1, zb x e1, h]
        · exact at_x x (by omega)
      · simp only [runsGo, hk, Bool.false_eq_true, if_false, withT_cons]
        refine ⟨⟨Int.le_refl _, fun _ => by decide, by decide, by omega, c1.mono (by omega)⟩, fun x hx' => ?_⟩
        simp only [val]
        by_cases e1 : x < e.x
        · rw [if_pos ⟨hx', e1⟩, za x e1, zb x e1, h, ite_self]
        · rw [if_neg (by omega), if_neg (by omega)]
          exact at_x x (by omega)
    · have step : ∀ s, s < e.x + 1 → CanF false s false (withT (runsGo op es (na + e.a) (nb + e.b) (some s))) ∧ ∀ x, s ≤ x → val false (withT (runsGo op es (na + e.a) (nb + e.b) (some s))) x = if x < e.x then true else op (decide (0 < na + cntLe E.a x (e :: es))) (decide (0 < nb + cntLe E.b x (e :: es))) := fun s hs => by
        obtain ⟨c1, c2⟩ := ih2 s hs hk
        refine ⟨c1, fun x hx' => ?_⟩
        rw [c2 x hx']
        by_cases e1 : x < e.x
        · rw [if_pos e1, if_pos (by omega)]
        · rw [if_neg e1, sa x (by omega), sb x (by omega)]
          by_cases e2 : x < e.x + 1
          · rw [if_pos e2, lowa' x (by omega), lowb' x (by omega), Int.add_zero, Int.add_zero, hk]
          · rw [if_neg e2]
      refine ⟨fun h => ?_, fun s hs h => ?_⟩
      · simp only [runsGo, hk, if_true]
        obtain ⟨c1, c2⟩ := step e.x (by omega)
        refine ⟨c1.free hBe, fun x hx' => ?_⟩
        by_cases e1 : x < e.x
        · rw [val_low c1.sort e1, za x e1, zb x e1, h]
        · rw [c2 x (by omega), if_neg e1]
      · simp only [runsGo, hk, if_true]
        obtain ⟨c1, c2⟩ := step s (by omega)
        refine ⟨c1, fun x hx' => ?_⟩
        rw [c2 x hx']
        by_cases e1 : x < e.x
        · rw [if_pos e1, za x e1, zb x e1, h, ite_self]
        · rw [if_neg e1, if_neg (by omega)]

theorem low_bound : ∀ l : List E, ∃ B : Int, ∀ e ∈ l, B ≤ e.x
  | [] => ⟨0, by simp⟩
  | e :: l => by
    obtain ⟨B, h⟩ := low_bound l
    refine ⟨min B e.x, fun e' he => ?_⟩
    rcases List.mem_cons.1 he with rfl | he
    · omega
    · have := h e' he; omega

theorem high_bound (A : Int) : ∀ l : List E, ∃ B : Int, A ≤ B ∧ ∀ e ∈ l, e.x ≤ B
  | [] => ⟨A, Int.le_refl _, by simp⟩
  | e :: l => by
    obtain ⟨B, h0, h⟩ := high_bound A l
    refine ⟨max B e.x, by omega, fun e' he => ?_⟩
    rcases List.mem_cons.1 he with rfl | he
    · omega
    · have := h e' he; omega

theorem runs_of_edges {op : Op2} (h0 : op false false = false) {es : List E} (hi : Inc es) {A : Int} (ha : ∀ x, A ≤ x → cntLe E.a x es = 0) (hb : ∀ x, A ≤ x → cntLe E.b x es = 0) :
    RunsOf (fun x => op (decide (0 < cntLe E.a x es)) (decide (0 < cntLe E.b x es))) (runsGo op es 0 0 none) := by
  obtain ⟨B, hB⟩ := low_bound es
  obtain ⟨C, hC0, hC⟩ := high_bound A es
  obtain ⟨c1, c2⟩ := (runs_go h0 es 0 0 B hi hB (by rw [← cntLe_high hC, ha C hC0]; rfl) (by rw [← cntLe_high hC, hb C hC0]; rfl)).1 (by simpa using h0)
  refine ⟨⟨B, c1⟩, fun x => ?_⟩
  by_cases hx : B ≤ x
  · rw [c2 x hx, Int.zero_add, Int.zero_add]
  · rw [val_low c1.sort (by omega)]
    simp only [cntLe_low (g := E.a) (x := x) (l := es) (fun e he => by have := hB e he; omega), cntLe_low (g := E.b) (x := x) (l := es) (fun e he => by have := hB e he; omega)]
    simpa using h0.symm

def addLastP (l : List E) (e : E) : List E :=
  match l.getLast? with
  | none => [e]
  | some p => if p.x = e.x then (if p.a + e.a = 0 ∧ p.b + e.b = 0 then l.dropLast else l.dropLast ++ [⟨p.x, p.a + e.a, p.b + e.b⟩]) else l ++ [e]

def takeLe (x : Int) (l : List E) : List E := l.takeWhile fun e => decide (e.x ≤ x)
def dropLe (x : Int) (l : List E) : List E := l.dropWhile fun e => decide (e.x ≤ x)

def addAll : List E → List E → List E → List E
  | sum, es, [] => sum ++ es
  | sum, es, c :: ch => addAll (addLastP (sum ++ takeLe c.x es) c) (dropLe c.x es) ch

theorem addLast_nil (e : E) : addLastP [] e = [e] := rfl
theorem addLast_snoc (l : List E) (p e : E) : addLastP (l ++ [p]) e = if p.x = e.x then (if p.a + e.a = 0 ∧ p.b + e.b = 0 then l else l ++ [⟨p.x, p.a + e.a, p.b + e.b⟩]) else l ++ [p] ++ [e] := by
  simp [addLastP]

structure Lin (g : E → Int) : Prop where
  zero : ∀ x, g ⟨x, 0, 0⟩ = 0
  add : ∀ (p q : E) (x : Int), g ⟨x, p.a + q.a, p.b + q.b⟩ = g p + g q

theorem lin_a : Lin E.a := ⟨fun _ => rfl, fun _ _ _ => rfl⟩
theorem lin_b : Lin E.b := ⟨fun _ => rfl, fun _ _ _ => rfl⟩

theorem snoc_cases {α : Type} (l : List α) : l = [] ∨ ∃ m p, l = m ++ [p] := by
  rcases List.eq_nil_or_concat l with h | ⟨m, p, h⟩
  · exact .inl h
  · exact .inr ⟨m, p, by simpa using h⟩

theorem addLast_cnt {g : E → Int} (hg : Lin g) (l : List E) (c : E) (x : Int) : cntLe g x (addLastP l c) = cntLe g x l + if c.x ≤ x then g c else 0 := by
  rcases snoc_cases l with rfl | ⟨m, p, rfl⟩
  · simp [addLast_nil, cntLe]
  · rw [addLast_snoc]
    by_cases h : p.x = c.x
    · rw [if_pos h]
      have hs := hg.add p c p.x
      by_cases hz : p.a + c.a = 0 ∧ p.b + c.b = 0
      · rw [if_pos hz]
        rw [hz.1, hz.2, hg.zero] at hs
        clear hz
        simp only [cntLe_append, cntLe, h]
        split <;> omega
      · rw [if_neg hz]
        rw [h] at hs
        simp only [cntLe_append, cntLe, h, hs]
        split <;> omega
    · rw [if_neg h]
      simp only [cntLe_append, cntLe]
      omega

theorem addLast_wt (l : List E) (c : E) : wt (addLastP l c) ≤ wt l + wt [c] := by
  rcases snoc_cases l with rfl | ⟨m, p, rfl⟩
  · simp [addLast_nil, wt]
  · rw [addLast_snoc]
    simp only [wt_append, wt]
    split
    · split
      · omega
      · simp only [wt_append, wt]
        omega
    · simp only [wt_append, wt]
      omega

theorem addLast_len (l : List E) (c : E) : (addLastP l c).length ≤ l.length + 1 := by
  rcases snoc_cases l with rfl | ⟨m, p, rfl⟩
  · simp [addLast_nil]
  · rw [addLast_snoc]
    split
    · split <;> simp <;> omega
    · simp

theorem addLast_inc {l : List E} {c : E} (h : Inc l) (hc : ∀ e ∈ l, e.x ≤ c.x) : Inc (addLastP l c) ∧ ∀ e ∈ addLastP l c, e.x ≤ c.x := by
  rcases snoc_cases l with rfl | ⟨m, p, rfl⟩
  · rw [addLast_nil]
    exact ⟨List.pairwise_singleton _ _, fun e he => by rw [List.mem_singleton.1 he]; omega⟩
  · rw [addLast_snoc]
    obtain ⟨h1, _, h3⟩ := List.pairwise_append.1 h
    have hm : ∀ e ∈ m, e.x < p.x := fun e he => h3 e he p (by simp)
    have hp := hc p (by simp)
    split
    · split
      · exact ⟨h1, fun e he => hc e (by simp [he])⟩
      · refine ⟨List.pairwise_append.2 ⟨h1, List.pairwise_singleton _ _, fun e he q hq => ?_⟩, fun e he => ?_⟩
        · rw [List.mem_singleton.1 hq]
          exact hm e he
        · rcases List.mem_append.1 he with he | he
          · exact hc e (by simp [he])
          · rw [List.mem_singleton.1 he]
            exact hp
    · rename_i hne
      refine ⟨List.pairwise_append.2 ⟨h, List.pairwise_singleton _ _, fun e he q hq => ?_⟩, fun e he => ?_⟩
      · rw [List.mem_singleton.1 hq]
        rcases List.mem_append.1 he with he | he
        · have := hm e he; omega
        · rw [List.mem_singleton.1 he]; omega
      · rcases List.mem_append.1 he with he | he
        · exact hc e he
        · rw [List.mem_singleton.1 he]; omega

theorem take_drop_le (x : Int) (l : List E) : takeLe x l ++ dropLe x l = l := List.takeWhile_append_dropWhile

theorem take_le {x : Int} : ∀ {l : List E}, ∀ e ∈ takeLe x l, e.x ≤ x
  | [], e, h => by simp [takeLe] at h
  | p :: l, e, h => by
    unfold takeLe at h
    rw [List.takeWhile_cons] at h
    split at h
    · rename_i hp
      rcases List.mem_cons.1 h with rfl | h
      · simpa using hp
      · exact take_le e h
    · cases h

theorem drop_gt {x : Int} : ∀ {l : List E}, Inc l → ∀ e ∈ dropLe x l, x < e.x
  | [], _, e, h => by simp [dropLe] at h
  | p :: l, hi, e, h => by
    unfold dropLe at h
    rw [List.dropWhile_cons] at h
    obtain ⟨h1, h2⟩ := List.pairwise_cons.1 hi
    split at h
    · exact drop_gt h2 e h
    · rename_i hp
      have hp' : x < p.x := by simpa using hp
      rcases List.mem_cons.1 h with rfl | h
      · exact hp'
      · have := h1 e h; omega

theorem addAll_ok : ∀ (ch sum es : List E) (M : Int), Inc (sum ++ es) → (∀ e ∈ sum, e.x ≤ M) → (∀ e ∈ es, M < e.x) → (M' : Int) → (∀ c ∈ ch, M ≤ c.x) → ch.Pairwise (fun p q => p.x ≤ q.x) →
    Inc (addAll sum es ch) ∧ (∀ g, Lin g → ∀ x, cntLe g x (addAll sum es ch) = cntLe g x sum + cntLe g x es + cntLe g x ch) ∧ wt (addAll sum es ch) ≤ wt sum + wt es + wt ch ∧ (addAll sum es ch).length ≤ sum.length + es.length + ch.length
  | [], sum, es, M, hi, _, _, _, _, _ => by
    refine ⟨hi, fun g _ x => ?_, ?_, ?_⟩
    · simp only [addAll, cntLe_append, cntLe]; omega
    · simp only [addAll, wt_append, wt]; omega
    · simp [addAll]
  | c :: ch, sum, es, M, hi, hs, he, M', hc, hp => by
    have hMc := hc c List.mem_cons_self
    obtain ⟨p1, p2⟩ := List.pairwise_cons.1 hp
    have es_eq := take_drop_le c.x es
    obtain ⟨i1, i2, i3⟩ := List.pairwise_append.1 hi
    have hi2 : Inc (sum ++ takeLe c.x es) := List.pairwise_append.2 ⟨i1, i2.sublist (List.takeWhile_sublist _), fun p hp q hq => i3 p hp q ((List.takeWhile_sublist _).subset hq)⟩
    have hle : ∀ e ∈ sum ++ takeLe c.x es, e.x ≤ c.x := fun e h => by
      rcases List.mem_append.1 h with h | h
      · have := hs e h; omega
      · exact take_le e h
    obtain ⟨a1, a2⟩ := addLast_inc hi2 hle
    have hgt : ∀ e ∈ dropLe c.x es, c.x < e.x := drop_gt i2
    obtain ⟨r1, r2, r3, r4⟩ := addAll_ok ch (addLastP (sum ++ takeLe c.x es) c) (dropLe c.x es) c.x
      (List.pairwise_append.2 ⟨a1, i2.sublist (List.dropWhile_sublist _), fun p hp q hq => by have := a2 p hp; have := hgt q hq; omega⟩) a2 hgt M' p1 p2
    have hcnt : ∀ (g : E → Int) (x : Int), cntLe g x es = cntLe g x (takeLe c.x es) + cntLe g x (dropLe c.x es) := fun g x => by rw [← cntLe_append, es_eq]
    have hwt : wt es = wt (takeLe c.x es) + wt (dropLe c.x es) := by rw [← wt_append, es_eq]
    have hlen : es.length = (takeLe c.x es).length + (dropLe c.x es).length := by rw [← List.length_append, es_eq]
    refine ⟨r1, fun g hg x => ?_, ?_, ?_⟩
    · simp only [addAll, cntLe]
      rw [r2 g hg x, addLast_cnt hg, cntLe_append, hcnt g x]
      omega
    · simp only [addAll]
      have := addLast_wt (sum ++ takeLe c.x es) c
      rw [wt_append] at this
      simp only [wt] at this ⊢
      omega
    · simp only [addAll]
      have := addLast_len (sum ++ takeLe c.x es) c
      rw [List.length_append] at this
      simp only [List.length_cons]
      omega

theorem addAll_sum {es ch : List E} (hi : Inc es) (hs : ch.Pairwise (fun p q => p.x ≤ q.x)) :
    Inc (addAll [] es ch) ∧ (∀ g, Lin g → ∀ x, cntLe g x (addAll [] es ch) = cntLe g x es + cntLe g x ch) ∧ wt (addAll [] es ch) ≤ wt es + wt ch ∧ (addAll [] es ch).length ≤ es.length + ch.length := by
  obtain ⟨B, hB⟩ := low_bound (es ++ ch)
  obtain ⟨h1, h2, h3, h4⟩ := addAll_ok ch [] es (B - 1) hi (by simp) (fun e he => by have := hB e (by simp [he]); omega) 0 (fun e he => by have := hB e (by simp [he]); omega) hs
  refine ⟨h1, fun g hg x => ?_, ?_, ?_⟩
  · have := h2 g hg x; simp only [cntLe] at this; omega
  · simp only [wt] at h3; omega
  · simp only [List.length_nil] at h4; omega

def chgR (sa sb : Int) (y : Int) (r : R) : List E :=
  if empB r then [] else if r.y0 = y then [⟨r.x0, sa, sb⟩, ⟨r.x1, -sa, -sb⟩] else if r.y1 = y then [⟨r.x0, -sa, -sb⟩, ⟨r.x1, sa, sb⟩] else []
def chgL (sa sb : Int) (l : List R) (y : Int) : List E := l.flatMap (chgR sa sb y)
def chg (a b : List R) (y : Int) : List E := chgL 1 0 a y ++ chgL 0 1 b y

def cov : List R → Int → Int → Int
  | [], _, _ => 0
  | r :: l, x, y => one (conB r x y) + cov l x y

theorem cov_nonneg : ∀ (l : List R) (x y : Int), 0 ≤ cov l x y
  | [], _, _ => Int.le_refl _
  | r :: l, x, y => by
    have := cov_nonneg l x y
    simp only [cov, one]
    split <;> omega

theorem cov_in : ∀ (l : List R) (x y : Int), decide (0 < cov l x y) = inL l x y
  | [], _, _ => rfl
  | r :: l, x, y => by
    have h0 := cov_nonneg l x y
    have ih := cov_in l x y
    rw [Bool.eq_iff_iff, decide_eq_true_eq] at ih ⊢
    simp only [cov, inL, List.any_cons, Bool.or_eq_true] at ih ⊢
    rw [← ih]
    unfold one
    by_cases hc : conB r x y = true
    · rw [if_pos hc]
      exact ⟨fun _ => .inl hc, fun _ => by omega⟩
    · rw [if_neg hc]
      exact ⟨fun h => .inr (by omega), fun h => by rcases h with h | h; exact absurd h hc; omega⟩

def Clear (l : List R) (t y : Int) : Prop := ∀ r ∈ l, empB r = false → (r.y0 ≤ t ∨ y ≤ r.y0) ∧ (r.y1 ≤ t ∨ y ≤ r.y1)

theorem con_rows {r : R} (h : empB r = false) (x y : Int) : one (conB r x y) = if r.y0 ≤ y ∧ y < r.y1 ∧ r.x0 ≤ x ∧ x < r.x1 then 1 else 0 := by
  have hc := con_iff r x y
  unfold one
  by_cases e : r.y0 ≤ y ∧ y < r.y1 ∧ r.x0 ≤ x ∧ x < r.x1
  · rw [if_pos e, if_pos (hc.2 ⟨h, by omega⟩)]
  · rw [if_neg e, if_neg (fun k => e (by have := (hc.1 k).2; omega))]

theorem con_none {r : R} (h : empB r = true) (x y : Int) : one (conB r x y) = 0 := by
  unfold one
  rw [if_neg (fun k => by have := ((con_iff r x y).1 k).1; rw [h] at this; cases this)]

theorem chgR_cnt {r : R} {t y : Int} (ht : t < y) (hc : empB r = false → (r.y0 ≤ t ∨ y ≤ r.y0) ∧ (r.y1 ≤ t ∨ y ≤ r.y1)) (x : Int) :
    one (conB r x y) = one (conB r x t) + cntLe E.a x (chgR 1 0 y r) ∧ one (conB r x y) = one (conB r x t) + cntLe E.b x (chgR 0 1 y r) ∧ cntLe E.b x (chgR 1 0 y r) = 0 ∧ cntLe E.a x (chgR 0 1 y r) = 0 := by
  cases h : empB r
  · have hf := (emp_no r).1 h
    obtain ⟨h1, h2⟩ := hc h
    rw [con_rows h, con_rows h]
    simp only [chgR, h, Bool.false_eq_true, if_false]
    by_cases e0 : r.y0 = y
    · rw [if_pos e0, if_pos e0]
      simp only [cntLe]
      refine ⟨?_, ?_, ?_, ?_⟩ <;> (repeat' split) <;> omega
    · rw [if_neg e0, if_neg e0]
      by_cases e1 : r.y1 = y
      · rw [if_pos e1, if_pos e1]
        simp only [cntLe]
        refine ⟨?_, ?_, ?_, ?_⟩ <;> (repeat' split) <;> omega
      · rw [if_neg e1, if_neg e1]
        simp only [cntLe]
        refine ⟨?_, ?_, ?_, ?_⟩ <;> (repeat' split) <;> first | trivial | omega
  · rw [con_none h, con_none h]
    simp [chgR, h, cntLe]

theorem chgL_cnt {t y : Int} (ht : t < y) (x : Int) : ∀ {l : List R}, Clear l t y →
    cov l x y = cov l x t + cntLe E.a x (chgL 1 0 l y) ∧ cov l x y = cov l x t + cntLe E.b x (chgL 0 1 l y) ∧ cntLe E.b x (chgL 1 0 l y) = 0 ∧ cntLe E.a x (chgL 0 1 l y) = 0
  | [], _ => ⟨rfl, rfl, rfl, rfl⟩
  | r :: l, h => by
    obtain ⟨h1, h2, h3, h4⟩ := chgR_cnt ht (h r List.mem_cons_self) x
    obtain ⟨k1, k2, k3, k4⟩ := chgL_cnt ht x (l := l) (fun r' hr => h r' (List.mem_cons_of_mem _ hr))
    simp only [chgL, List.flatMap_cons, cntLe_append, cov] at k1 k2 k3 k4 ⊢
    omega

theorem chg_cnt {a b : List R} {t y : Int} (ht : t < y) (ha : Clear a t y) (hb : Clear b t y) (x : Int) :
    cov a x y = cov a x t + cntLe E.a x (chg a b y) ∧ cov b x y = cov b x t + cntLe E.b x (chg a b y) := by
  obtain ⟨h1, _, h3, _⟩ := chgL_cnt ht x ha
  obtain ⟨_, k2, _, k4⟩ := chgL_cnt ht x hb
  simp only [chg, cntLe_append]
  omega

theorem chgL_wt {sa sb : Int} (h : sa.natAbs + sb.natAbs = 1) (y : Int) : ∀ l : List R, wt (chgL sa sb l y) ≤ 2 * l.length ∧ (chgL sa sb l y).length ≤ 2 * l.length
  | [] => ⟨Nat.le_refl _, Nat.le_refl _⟩
  | r :: l => by
    have ih := chgL_wt h y l
    have hr : wt (chgR sa sb y r) ≤ 2 ∧ (chgR sa sb y r).length ≤ 2 := by
      unfold chgR
      (repeat' split) <;> simp [wt] <;> omega
    simp only [chgL, List.flatMap_cons, wt_append, List.length_append, List.length_cons] at ih ⊢
    omega

theorem chg_wt (a b : List R) (y : Int) : wt (chg a b y) ≤ 2 * (a.length + b.length) ∧ (chg a b y).length ≤ 2 * (a.length + b.length) := by
  have h1 := chgL_wt (sa := 1) (sb := 0) (by decide) y a
  have h2 := chgL_wt (sa := 0) (sb := 1) (by decide) y b
  simp only [chg, wt_append, List.length_append]
  omega

def Covers (l : List R) (t : Int) (ys : List Int) : Prop := ∀ r ∈ l, empB r = false → (r.y0 ≤ t ∨ r.y0 ∈ ys) ∧ (r.y1 ≤ t ∨ r.y1 ∈ ys)

theorem Covers.clear {l : List R} {t y : Int} {ys : List Int} (h : Covers l t (y :: ys)) (hy : ∀ z ∈ ys, y < z) : Clear l t y := fun r hr he => by
  obtain ⟨h1, h2⟩ := h r hr he
  have k : ∀ z, z ≤ t ∨ z ∈ y :: ys → z ≤ t ∨ y ≤ z := fun z hz => by
    rcases hz with hz | hz
    · exact .inl hz
    · rcases List.mem_cons.1 hz with rfl | hz
      · exact .inr (Int.le_refl _)
      · exact .inr (by have := hy z hz; omega)
  exact ⟨k _ h1, k _ h2⟩

theorem Covers.next {l : List R} {t y : Int} {ys : List Int} (h : Covers l t (y :: ys)) (ht : t ≤ y) : Covers l y ys := fun r hr he => by
  obtain ⟨h1, h2⟩ := h r hr he
  have k : ∀ z, z ≤ t ∨ z ∈ y :: ys → z ≤ y ∨ z ∈ ys := fun z hz => by
    rcases hz with hz | hz
    · exact .inl (by omega)
    · rcases List.mem_cons.1 hz with rfl | hz
      · exact .inl (Int.le_refl _)
      · exact .inr hz
  exact ⟨k _ h1, k _ h2⟩

theorem clear_row {l : List R} {t u : Int} (ht : t ≤ u) (h : ∀ r ∈ l, empB r = false → (r.y0 ≤ t ∨ u < r.y0) ∧ (r.y1 ≤ t ∨ u < r.y1)) (x : Int) : inL l x u = inL l x t := by
  rw [Bool.eq_iff_iff, inL_iff, inL_iff]
  constructor
  · rintro ⟨r, hr, hc⟩
    obtain ⟨he, h1⟩ := (con_iff _ _ _).1 hc
    have := h r hr he
    exact ⟨r, hr, (con_iff _ _ _).2 ⟨he, by omega⟩⟩
  · rintro ⟨r, hr, hc⟩
    obtain ⟨he, h1⟩ := (con_iff _ _ _).1 hc
    have := h r hr he
    exact ⟨r, hr, (con_iff _ _ _).2 ⟨he, by omega⟩⟩

theorem past_row {l : List R} {t u : Int} (ht : t ≤ u) (h : ∀ r ∈ l, empB r = false → r.y1 ≤ t) (x : Int) : inL l x u = false := by
  cases e : inL l x u
  · rfl
  · obtain ⟨r, hr, hc⟩ := (inL_iff _ _ _).1 e
    obtain ⟨he, h1⟩ := (con_iff _ _ _).1 hc
    have := h r hr he
    omega

def stripsY (rr : Int → Runs) : Int → List Int → List Band
  | _, [] => []
  | t, y :: ys => if rr t = [] then stripsY rr y ys else (t, y, rr t) :: stripsY rr y ys

theorem stripsY_ok {op : Op2} (h0 : op false false = false) {a b : List R} {rr : Int → Runs} (hr : ∀ y, RunsOf (fun x => setS op a b x y) (rr y)) :
    ∀ (ys : List Int) (t : Int), (t :: ys).Pairwise (· < ·) → Covers a t ys → Covers b t ys → SortF [] t (stripsY rr t ys) ∧ ∀ u, t ≤ u → val [] (stripsY rr t ys) u = rr u
  | [], t, _, ha, hb => by
    refine ⟨trivial, fun u hu => ?_⟩
    have ea : ∀ r ∈ a, empB r = false → r.y1 ≤ t := fun r h he => by rcases (ha r h he).2 with h | h; exact h; cases h
    have eb : ∀ r ∈ b, empB r = false → r.y1 ≤ t := fun r h he => by rcases (hb r h he).2 with h | h; exact h; cases h
    refine runs_unique (runs_nil fun x => ?_) (hr u)
    simp only [setS, past_row hu ea, past_row hu eb, h0]
  | y :: ys, t, hp, ha, hb => by
    obtain ⟨p1, p2⟩ := List.pairwise_cons.1 hp
    have hty := p1 y List.mem_cons_self
    obtain ⟨p3, _⟩ := List.pairwise_cons.1 p2
    have ca := ha.clear p3
    have cb := hb.clear p3
    obtain ⟨i1, i2⟩ := stripsY_ok h0 hr ys y p2 (ha.next (by omega)) (hb.next (by omega))
    have row : ∀ u, t ≤ u → u < y → rr u = rr t := fun u h1 h2 => by
      refine runs_unique (hr u) ((hr t).congr fun x => ?_)
      simp only [setS]
      rw [clear_row (l := a) h1 (fun r h he => by have := ca r h he; omega), clear_row (l := b) h1 (fun r h he => by have := cb r h he; omega)]
    unfold stripsY
    by_cases e : rr t = []
    · rw [if_pos e]
      refine ⟨i1.mono (by omega), fun u hu => ?_⟩
      by_cases hy : y ≤ u
      · exact i2 u hy
      · rw [val_low i1 (by omega), row u hu (by omega), e]
    · rw [if_neg e]
      refine ⟨⟨Int.le_refl _, e, hty, i1⟩, fun u hu => ?_⟩
      simp only [val]
      by_cases hy : u < y
      · rw [if_pos ⟨hu, hy⟩, row u hu hy]
      · rw [if_neg (by omega)]
        exact i2 u (by omega)

theorem stripsY_strips {op : Op2} (h0 : op false false = false) {a b : List R} {rr : Int → Runs} (hr : ∀ y, RunsOf (fun x => setS op a b x y) (rr y)) {ys : List Int} {t : Int} (hp : (t :: ys).Pairwise (· < ·)) (ha : Covers a t ys) (hb : Covers b t ys) (ht : t < -16384) : Strips (setS op a b) (stripsY rr t ys) := by
  obtain ⟨h1, h2⟩ := stripsY_ok h0 hr ys t hp ha hb
  refine ⟨⟨t, h1⟩, fun y => ?_⟩
  by_cases hy : t ≤ y
  · rw [h2 y hy]
    exact hr y
  · rw [val_low h1 (by omega)]
    refine runs_nil fun x => ?_
    cases e : setS op a b x y
    · rfl
    · have := setS_inside h0 a b x y e; omega

end Go.Proofs.YthedglfocjljjaaGreatDoor.Rgn
