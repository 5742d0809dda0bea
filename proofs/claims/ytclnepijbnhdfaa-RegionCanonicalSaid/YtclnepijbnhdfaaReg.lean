/-
  Sets of pixels and their canonical regions: runs of a row, bands of rows, one region for each set, areas as numbers of pixels.
-/
import Derived.Test.YtclnepijbnhdfaaSteps
import Derived.Test.YtclnepijbnhdfaaPure
namespace Go.Proofs.Ytclnepijbnhdfaa

/-- runs of a row: from, to -/
abbrev Runs := List (Int × Int)
/-- a band: from, to, its runs -/
abbrev Band := Int × Int × Runs

def withT (rs : Runs) : List (Int × Int × Bool) := rs.map fun p => (p.1, p.2, true)

theorem withT_inj : ∀ {a b : Runs}, withT a = withT b → a = b
  | [], [], _ => rfl
  | [], _ :: _, h => by simp [withT] at h
  | _ :: _, [], h => by simp [withT] at h
  | (p, q) :: a, (r, s) :: b, h => by
    simp only [withT, List.map_cons, List.cons.injEq, Prod.mk.injEq] at h
    rw [h.1.1, h.1.2.1, withT_inj h.2]

/-- rs are the maximal runs of the row f -/
def RunsOf (f : Int → Bool) (rs : Runs) : Prop := (∃ B, CanF false B false (withT rs)) ∧ ∀ x, val false (withT rs) x = f x

theorem runs_unique {f : Int → Bool} {a b : Runs} (ha : RunsOf f a) (hb : RunsOf f b) : a = b := by
  obtain ⟨⟨A, ha⟩, va⟩ := ha
  obtain ⟨⟨B, hb⟩, vb⟩ := hb
  exact withT_inj (can_unique (B := min A B) (u := false) (ha.free (by omega)) (hb.free (by omega)) (fun t _ => by rw [va, vb]))

theorem runs_exists {f : Int → Bool} {A : Int} {n : Nat} (h : ∀ x, f x = true → A ≤ x ∧ x < A + n) : ∃ rs, RunsOf f rs := by
  obtain ⟨l, hl, hv⟩ := can_exists false n A f (fun t ht => by
    cases e : f t
    · rfl
    · have := h t e; omega)
  have all : ∀ {l : List (Int × Int × Bool)} {B : Int} {u : Bool}, CanF false B u l → ∃ rs, l = withT rs := fun {l} => by
    induction l with
    | nil => exact fun _ => ⟨[], rfl⟩
    | cons p l ih =>
      obtain ⟨lo, hi, v⟩ := p
      rintro B u ⟨h1, h2, h3, h4, h5⟩
      obtain ⟨rs, rfl⟩ := ih h5
      refine ⟨(lo, hi) :: rs, ?_⟩
      cases v
      · exact absurd rfl h3
      · rfl
  obtain ⟨rs, rfl⟩ := all hl
  refine ⟨rs, ⟨A, hl⟩, fun x => ?_⟩
  by_cases hx : A ≤ x
  · exact hv x hx
  · rw [val_low hl.sort (by omega)]
    cases e : f x
    · rfl
    · have := h x e; omega

theorem runs_nil {f : Int → Bool} (h : ∀ x, f x = false) : RunsOf f [] := ⟨⟨0, trivial⟩, fun x => (h x).symm⟩

theorem runs_empty {f : Int → Bool} (h : RunsOf f []) : ∀ x, f x = false := fun x => (h.2 x).symm

theorem RunsOf.congr {f g : Int → Bool} {rs : Runs} (h : RunsOf f rs) (e : ∀ x, f x = g x) : RunsOf g rs := ⟨h.1, fun x => (h.2 x).trans (e x)⟩

/-- the rectangles of a band -/
def bandR (b : Band) : List R := b.2.2.map fun p => ⟨p.1, b.1, p.2, b.2.1⟩
def flatB (bs : List Band) : List R := bs.flatMap bandR

/-- L are strips of rows with the pixels of S -/
def Strips (S : Int → Int → Bool) (L : List Band) : Prop := (∃ B, SortF [] B L) ∧ ∀ y, RunsOf (fun x => S x y) (val [] L y)

/-- l is the canonical region of the pixels of S -/
def Region (S : Int → Int → Bool) (l : List R) : Prop := ∃ bs, l = flatB bs ∧ (∃ B, CanF [] B [] bs) ∧ ∀ y, RunsOf (fun x => S x y) (val [] bs y)

/-- the pixels of S have coordinates from -16384 to 16383 -/
def Inside (S : Int → Int → Bool) : Prop := ∀ x y, S x y = true → (-16384 ≤ x ∧ x < 16384) ∧ (-16384 ≤ y ∧ y < 16384)

theorem region_unique {S : Int → Int → Bool} {l m : List R} (hl : Region S l) (hm : Region S m) : l = m := by
  obtain ⟨a, rfl, ⟨A, ha⟩, va⟩ := hl
  obtain ⟨b, rfl, ⟨B, hb⟩, vb⟩ := hm
  rw [can_unique (B := min A B) (u := []) (ha.free (by omega)) (hb.free (by omega)) (fun t _ => runs_unique (va t) (vb t))]

theorem Region.congr {S T : Int → Int → Bool} {l : List R} (h : Region S l) (e : ∀ x y, S x y = T x y) : Region T l := by
  have : S = T := funext fun x => funext fun y => e x y
  rwa [← this]

theorem region_of_strips {S : Int → Int → Bool} {L : List Band} (h : Strips S L) : Region S (flatB (comps L)) := by
  obtain ⟨⟨B, hs⟩, hv⟩ := h
  obtain ⟨h1, h2⟩ := comps_ok hs
  exact ⟨comps L, rfl, ⟨B, h1⟩, fun y => by rw [h2]; exact hv y⟩

theorem rows_exist {S : Int → Int → Bool} (h : Inside S) : ∃ rr : Int → Runs, ∀ y, RunsOf (fun x => S x y) (rr y) :=
  ⟨fun y => Classical.choose (runs_exists (f := fun x => S x y) (A := -16384) (n := 32768) (fun x hx => by have := h x y hx; omega)), fun y => Classical.choose_spec (runs_exists (f := fun x => S x y) (A := -16384) (n := 32768) (fun x hx => by have := h x y hx; omega))⟩

theorem strips_exist {S : Int → Int → Bool} (h : Inside S) : ∃ L, Strips S L := by
  obtain ⟨rr, hr⟩ := rows_exist h
  obtain ⟨l, hl, hv⟩ := can_exists ([] : Runs) 32768 (-16384) rr (fun t ht => by
    refine runs_unique (hr t) (runs_nil fun x => ?_)
    cases e : S x t
    · rfl
    · have := h x t e; omega)
  refine ⟨l, ⟨-16384, hl.sort⟩, fun y => ?_⟩
  by_cases hy : -16384 ≤ y
  · rw [hv y hy]
    exact hr y
  · rw [val_low hl.sort (by omega)]
    refine runs_nil fun x => ?_
    cases e : S x y
    · rfl
    · have := h x y e; omega

theorem region_exists {S : Int → Int → Bool} (h : Inside S) : ∃ l, Region S l := by
  obtain ⟨L, hL⟩ := strips_exist h
  exact ⟨_, region_of_strips hL⟩

section
variable {V : Type}

theorem SortF.tail_from {d : V} {l : List (Int × Int × V)} {B : Int} (h : SortF d B l) : ∀ p ∈ l, B ≤ p.1 ∧ p.2.2 ≠ d ∧ p.1 < p.2.1 ∧ ∀ t, p.1 ≤ t → t < p.2.1 → val d l t = p.2.2 := by
  induction l generalizing B with
  | nil => simp
  | cons q l ih =>
    obtain ⟨lo, hi, v⟩ := q
    obtain ⟨h1, h2, h3, h4⟩ := h
    intro p hp
    rcases List.mem_cons.1 hp with rfl | hp
    · refine ⟨h1, h2, h3, fun t t1 t2 => ?_⟩
      simp only at t1 t2
      simp only [val]
      rw [if_pos ⟨t1, t2⟩]
    · obtain ⟨k1, k2, k3, k4⟩ := ih h4 p hp
      refine ⟨by omega, k2, k3, fun t t1 t2 => ?_⟩
      simp only [val]
      rw [if_neg (by omega)]
      exact k4 t t1 t2

/-- where the function's values lie the steps lie -/
theorem SortF.within {d : V} {l : List (Int × Int × V)} {B A C : Int} (h : SortF d B l) (hs : ∀ t, val d l t ≠ d → A ≤ t ∧ t < C) : SortF d A l ∧ ∀ p ∈ l, A ≤ p.1 ∧ p.2.1 ≤ C := by
  have all := h.tail_from
  have hw : ∀ p ∈ l, A ≤ p.1 ∧ p.2.1 ≤ C := fun p hp => by
    obtain ⟨k1, k2, k3, k4⟩ := all p hp
    have e1 := hs p.1 (by rw [k4 p.1 (by omega) k3]; exact k2)
    have e2 := hs (p.2.1 - 1) (by rw [k4 (p.2.1 - 1) (by omega) (by omega)]; exact k2)
    omega
  refine ⟨?_, hw⟩
  cases l with
  | nil => trivial
  | cons q l =>
    have := hw q List.mem_cons_self
    obtain ⟨lo, hi, v⟩ := q
    exact ⟨this.1, h.2⟩

theorem val_ne {d : V} {l : List (Int × Int × V)} {t : Int} (h : val d l t ≠ d) : ∃ p ∈ l, p.1 ≤ t ∧ t < p.2.1 := by
  induction l with
  | nil => exact absurd rfl h
  | cons q l ih =>
    obtain ⟨lo, hi, v⟩ := q
    simp only [val] at h
    by_cases e : lo ≤ t ∧ t < hi
    · exact ⟨(lo, hi, v), List.mem_cons_self, e⟩
    · rw [if_neg e] at h
      obtain ⟨p, hp, hh⟩ := ih h
      exact ⟨p, List.mem_cons_of_mem _ hp, hh⟩

end

theorem runs_in {f : Int → Bool} {rs : Runs} (h : RunsOf f rs) (x : Int) : f x = true ↔ ∃ p ∈ rs, p.1 ≤ x ∧ x < p.2 := by
  obtain ⟨⟨B, hc⟩, hv⟩ := h
  rw [← hv x]
  constructor
  · intro e
    obtain ⟨p, hp, hh⟩ := val_ne (d := false) (l := withT rs) (t := x) (by rw [e]; decide)
    obtain ⟨q, hq, rfl⟩ := List.mem_map.1 hp
    exact ⟨q, hq, hh⟩
  · rintro ⟨p, hp, h1, h2⟩
    exact (hc.sort.tail_from (p.1, p.2, true) (List.mem_map.2 ⟨p, hp, rfl⟩)).2.2.2 x h1 h2

theorem runs_bounds {f : Int → Bool} {rs : Runs} (h : RunsOf f rs) {A C : Int} (hs : ∀ x, f x = true → A ≤ x ∧ x < C) : ∀ p ∈ rs, A ≤ p.1 ∧ p.1 < p.2 ∧ p.2 ≤ C := fun p hp => by
  obtain ⟨⟨B, hc⟩, hv⟩ := h
  have hm : (p.1, p.2, true) ∈ withT rs := List.mem_map.2 ⟨p, hp, rfl⟩
  have h1 := hc.sort.tail_from _ hm
  have h2 := (hc.sort.within (A := A) (C := C) (fun t ht => hs t (by rw [← hv t]; cases e : val false (withT rs) t; exact absurd e ht; rfl))).2 _ hm
  exact ⟨h2.1, h1.2.2.1, h2.2⟩

/-- the pixels of a list of rectangles -/
def inL (l : List R) (x y : Int) : Bool := l.any fun r => conB r x y

theorem inL_iff (l : List R) (x y : Int) : inL l x y = true ↔ ∃ r ∈ l, conB r x y = true := by simp [inL]

theorem mem_flatB {bs : List Band} {r : R} : r ∈ flatB bs ↔ ∃ b ∈ bs, ∃ p ∈ b.2.2, r = ⟨p.1, b.1, p.2, b.2.1⟩ := by
  simp only [flatB, bandR, List.mem_flatMap, List.mem_map]
  constructor
  · rintro ⟨b, hb, p, hp, rfl⟩
    exact ⟨b, hb, p, hp, rfl⟩
  · rintro ⟨b, hb, p, hp, rfl⟩
    exact ⟨b, hb, p, hp, rfl⟩

/-- strips lie where the set lies -/
theorem strips_within {S : Int → Int → Bool} {L : List Band} (h : Strips S L) (hi : Inside S) : ∀ b ∈ L, (-16384 ≤ b.1 ∧ b.1 < b.2.1 ∧ b.2.1 ≤ 16384) ∧ b.2.2 ≠ [] ∧ (∀ p ∈ b.2.2, -16384 ≤ p.1 ∧ p.1 < p.2 ∧ p.2 ≤ 16384) ∧ ∀ y, b.1 ≤ y → y < b.2.1 → RunsOf (fun x => S x y) b.2.2 := fun b hb => by
  obtain ⟨⟨B, hs⟩, hv⟩ := h
  obtain ⟨h1, h2, h3, h4⟩ := hs.tail_from b hb
  have hr : ∀ y, b.1 ≤ y → y < b.2.1 → RunsOf (fun x => S x y) b.2.2 := fun y y1 y2 => by rw [← h4 y y1 y2]; exact hv y
  have hw := (hs.within (A := -16384) (C := 16384) (fun t ht => by
    cases e : val [] L t with
    | nil => exact absurd e ht
    | cons p rs =>
      have h5 := hv t
      rw [e] at h5
      obtain ⟨⟨C, hc⟩, _⟩ := id h5
      have := hc.2.2.2.1
      have h6 := (runs_in h5 p.1).2 ⟨p, List.mem_cons_self, Int.le_refl _, this⟩
      exact (hi _ _ h6).2)).2 b hb
  exact ⟨⟨hw.1, h3, hw.2⟩, h2, runs_bounds (hr b.1 (Int.le_refl _) h3) (fun x hx => (hi _ _ hx).1), hr⟩

theorem strips_in {S : Int → Int → Bool} {L : List Band} (h : Strips S L) (hi : Inside S) (x y : Int) : inL (flatB L) x y = S x y := by
  have hw := strips_within h hi
  rw [Bool.eq_iff_iff, inL_iff]
  constructor
  · rintro ⟨r, hr, hc⟩
    obtain ⟨b, hb, p, hp, rfl⟩ := mem_flatB.1 hr
    obtain ⟨_, h1, h2, h3, h4⟩ := (con_iff _ _ _).1 hc
    simp only at h1 h2 h3 h4
    exact (runs_in ((hw b hb).2.2.2 y h3 h4) x).2 ⟨p, hp, h1, h2⟩
  · intro hs
    have hr := h.2 y
    obtain ⟨p, hp, h1, h2⟩ := (runs_in hr x).1 hs
    obtain ⟨b, hb, h3, h4⟩ := val_ne (d := ([] : Runs)) (l := L) (t := y) (fun e => by rw [e] at hp; cases hp)
    have hbv := (h.1.choose_spec.tail_from b hb).2.2.2 y h3 h4
    rw [hbv] at hp
    refine ⟨⟨p.1, b.1, p.2, b.2.1⟩, mem_flatB.2 ⟨b, hb, p, hp, rfl⟩, (con_iff _ _ _).2 ⟨(emp_no _).2 ?_, h1, h2, h3, h4⟩⟩
    obtain ⟨w1, _, w2, _⟩ := hw b hb
    have := w2 p hp
    simp only
    omega

theorem Region.strips {S : Int → Int → Bool} {l : List R} (h : Region S l) : ∃ L, l = flatB L ∧ Strips S L := by
  obtain ⟨bs, e, ⟨B, hc⟩, hv⟩ := h
  exact ⟨bs, e, ⟨B, hc.sort⟩, hv⟩

/-- a region has the pixels of its set -/
theorem region_in {S : Int → Int → Bool} {l : List R} (h : Region S l) (hi : Inside S) (x y : Int) : inL l x y = S x y := by
  obtain ⟨L, rfl, hL⟩ := h.strips
  exact strips_in hL hi x y

/-- none of its rectangles is empty -/
theorem region_full {S : Int → Int → Bool} {l : List R} (h : Region S l) (hi : Inside S) : ∀ r ∈ l, empB r = false := by
  obtain ⟨L, rfl, hL⟩ := h.strips
  intro r hr
  obtain ⟨b, hb, p, hp, rfl⟩ := mem_flatB.1 hr
  obtain ⟨w1, _, w2, _⟩ := strips_within hL hi b hb
  have := w2 p hp
  rw [emp_no]
  simp only
  omega

theorem inL_inside (l : List R) : Inside (inL l) := fun x y h => by
  obtain ⟨r, _, hc⟩ := (inL_iff _ _ _).1 h
  obtain ⟨he, h1, h2, h3, h4⟩ := (con_iff _ _ _).1 hc
  have := (emp_no _).1 he
  omega

/-- the set that op selects -/
def setS (op : Bool → Bool → Bool) (a b : List R) (x y : Int) : Bool := op (inL a x y) (inL b x y)

theorem setS_inside {op : Bool → Bool → Bool} (h : op false false = false) (a b : List R) : Inside (setS op a b) := fun x y hs => by
  unfold setS at hs
  cases ha : inL a x y
  · cases hb : inL b x y
    · rw [ha, hb, h] at hs
      cases hs
    · exact inL_inside b x y hb
  · exact inL_inside a x y ha

/-! ### areas -/
def width : Runs → Int
  | [] => 0
  | p :: rs => (p.2 - p.1) + width rs

def areaP (r : R) : Int := (r.x1 - r.x0) * (r.y1 - r.y0)
def sumP : List R → Int
  | [] => 0
  | r :: l => areaP r + sumP l

theorem sumP_append : ∀ l m : List R, sumP (l ++ m) = sumP l + sumP m
  | [], m => by simp [sumP]
  | r :: l, m => by simp only [List.cons_append, sumP, sumP_append l m]; omega

theorem sumP_band (b : Band) : sumP (bandR b) = (b.2.1 - b.1) * width b.2.2 := by
  obtain ⟨lo, hi, rs⟩ := b
  simp only [bandR]
  induction rs with
  | nil => simp [sumP, width]
  | cons p rs ih => simp only [List.map_cons, sumP, width, areaP, ih, Int.mul_add]; rw [Int.mul_comm]

theorem sumP_flat : ∀ L : List Band, sumP (flatB L) = sumS width L
  | [] => rfl
  | (lo, hi, rs) :: L => by
    have := sumP_flat L
    simp only [flatB, List.flatMap_cons, sumP_append, sumP_band, sumS] at this ⊢
    rw [this]

def one (b : Bool) : Int := if b then 1 else 0

/-- how many pixels of the square from A, A (n by n) the set has -/
def cnt (n : Nat) (A : Int) (S : Int → Int → Bool) : Int := sumR n A fun y => sumR n A fun x => one (S x y)

theorem sum_withT : ∀ rs : Runs, sumS one (withT rs) = width rs
  | [] => rfl
  | p :: rs => by
    have := sum_withT rs
    simp only [withT, List.map_cons, sumS, width] at this ⊢
    rw [this]
    simp [one]

theorem width_runs {f : Int → Bool} {rs : Runs} (h : RunsOf f rs) {n : Nat} {A : Int} (hs : ∀ x, f x = true → A ≤ x ∧ x < A + n) : sumR n A (fun x => one (f x)) = width rs := by
  obtain ⟨⟨B, hc⟩, hv⟩ := h
  obtain ⟨h1, h2⟩ := hc.sort.within (A := A) (C := A + n) (fun t ht => hs t (by rw [← hv t]; cases e : val false (withT rs) t; exact absurd e ht; rfl))
  rw [← sum_withT, ← sum_steps (d := false) (g := one) rfl h1 (fun p hp => (h2 p hp).2)]
  exact sumR_congr fun t _ _ => by rw [hv]

theorem area_strips {S : Int → Int → Bool} {L : List Band} (h : Strips S L) {n : Nat} {A : Int} (hs : ∀ x y, S x y = true → (A ≤ x ∧ x < A + n) ∧ (A ≤ y ∧ y < A + n)) : sumP (flatB L) = cnt n A S := by
  obtain ⟨⟨B, hc⟩, hv⟩ := h
  have hw := hc.within (A := A) (C := A + n) (fun t ht => by
    cases e : val [] L t with
    | nil => exact absurd e ht
    | cons p rs =>
      have h5 := hv t
      rw [e] at h5
      obtain ⟨⟨C, hc⟩, _⟩ := id h5
      have := hc.2.2.2.1
      have h6 := (runs_in h5 p.1).2 ⟨p, List.mem_cons_self, Int.le_refl _, this⟩
      exact (hs _ _ h6).2)
  rw [sumP_flat, ← sum_steps (d := ([] : Runs)) (g := width) rfl hw.1 (fun p hp => (hw.2 p hp).2)]
  exact sumR_congr fun t _ _ => (width_runs (hv t) (fun x hx => (hs x t hx).1)).symm

theorem cnt_add {n : Nat} {A : Int} {S T U W : Int → Int → Bool} (h : ∀ x y, one (S x y) + one (T x y) = one (U x y) + one (W x y)) : cnt n A S + cnt n A T = cnt n A U + cnt n A W := by
  unfold cnt
  rw [← sumR_add, ← sumR_add]
  refine sumR_congr fun y _ _ => ?_
  rw [← sumR_add, ← sumR_add]
  exact sumR_congr fun x _ _ => h x y

theorem cnt_none {n : Nat} {A : Int} {S : Int → Int → Bool} (h : ∀ x y, S x y = false) : cnt n A S = 0 :=
  sumR_zero fun y _ _ => sumR_zero fun x _ _ => by rw [h]; rfl

theorem cnt_le {n : Nat} {A : Int} (S : Int → Int → Bool) : 0 ≤ cnt n A S ∧ cnt n A S ≤ n * (n * 1) := by
  refine sumR_le fun y _ _ => sumR_le fun x _ _ => ?_
  unfold one
  split <;> omega

end Go.Proofs.Ytclnepijbnhdfaa
