/-
  What the reference of package region computes: sorted lists of rows, runs that are added to runs, the runs of a row, their combination.
-/
import Derived.Test.YtclnepijbnhdfaaEdge
namespace Go.Proofs.Ytclnepijbnhdfaa

/-! ### insert -/
def insP (n : Int) : List Int → List Int
  | [] => [n]
  | x :: l => if n ≤ x then (if n < x then n :: x :: l else x :: l) else x :: insP n l

theorem insP_mem {n z : Int} : ∀ {l : List Int}, z ∈ insP n l ↔ z = n ∨ z ∈ l
  | [] => by simp [insP]
  | x :: l => by
    have ih := insP_mem (n := n) (z := z) (l := l)
    unfold insP
    by_cases h1 : n ≤ x
    · rw [if_pos h1]
      by_cases h2 : n < x
      · rw [if_pos h2]; simp
      · rw [if_neg h2]
        have : n = x := by omega
        subst this
        simp
    · rw [if_neg h1]
      simp only [List.mem_cons, ih]
      constructor
      · rintro (h | h | h)
        · exact .inr (.inl h)
        · exact .inl h
        · exact .inr (.inr h)
      · rintro (h | h | h)
        · exact .inr (.inl h)
        · exact .inl h
        · exact .inr (.inr h)

theorem insP_inc {n : Int} : ∀ {l : List Int}, l.Pairwise (· < ·) → (insP n l).Pairwise (· < ·)
  | [], _ => List.pairwise_singleton _ _
  | x :: l, h => by
    obtain ⟨h1, h2⟩ := List.pairwise_cons.1 h
    unfold insP
    by_cases e1 : n ≤ x
    · rw [if_pos e1]
      by_cases e2 : n < x
      · rw [if_pos e2]
        refine List.pairwise_cons.2 ⟨fun z hz => ?_, h⟩
        rcases List.mem_cons.1 hz with rfl | hz
        · exact e2
        · have := h1 z hz; omega
      · rw [if_neg e2]
        exact h
    · rw [if_neg e1]
      refine List.pairwise_cons.2 ⟨fun z hz => ?_, insP_inc h2⟩
      rcases insP_mem.1 hz with rfl | hz
      · omega
      · exact h1 z hz

theorem insP_len (n : Int) : ∀ l : List Int, (insP n l).length ≤ l.length + 1
  | [] => Nat.le_refl _
  | x :: l => by
    have := insP_len n l
    unfold insP
    split
    · split <;> simp
    · simp; omega

/-- the rows at which rectangles begin or end, added to a list -/
def rowsP : List R → List Int → List Int
  | [], ys => ys
  | r :: l, ys => if empB r then rowsP l ys else rowsP l (insP r.y1 (insP r.y0 ys))

theorem rowsP_inc : ∀ {l : List R} {ys : List Int}, ys.Pairwise (· < ·) → (rowsP l ys).Pairwise (· < ·)
  | [], _, h => h
  | r :: l, ys, h => by
    unfold rowsP
    split
    · exact rowsP_inc h
    · exact rowsP_inc (insP_inc (insP_inc h))

theorem rowsP_mem : ∀ {l : List R} {ys : List Int} {z : Int}, z ∈ rowsP l ys ↔ z ∈ ys ∨ ∃ r ∈ l, empB r = false ∧ (z = r.y0 ∨ z = r.y1)
  | [], ys, z => by simp [rowsP]
  | r :: l, ys, z => by
    unfold rowsP
    cases h : empB r
    · simp only [Bool.false_eq_true, if_false]
      rw [rowsP_mem, insP_mem, insP_mem]
      constructor
      · rintro ((e | e | e) | ⟨q, hq, hh⟩)
        · exact .inr ⟨r, List.mem_cons_self, h, .inr e⟩
        · exact .inr ⟨r, List.mem_cons_self, h, .inl e⟩
        · exact .inl e
        · exact .inr ⟨q, List.mem_cons_of_mem _ hq, hh⟩
      · rintro (e | ⟨q, hq, hh, e⟩)
        · exact .inl (.inr (.inr e))
        · rcases List.mem_cons.1 hq with rfl | hq
          · rcases e with e | e
            · exact .inl (.inr (.inl e))
            · exact .inl (.inl e)
          · exact .inr ⟨q, hq, hh, e⟩
    · simp only [if_true]
      rw [rowsP_mem]
      constructor
      · rintro (e | ⟨q, hq, hh⟩)
        · exact .inl e
        · exact .inr ⟨q, List.mem_cons_of_mem _ hq, hh⟩
      · rintro (e | ⟨q, hq, hh, e⟩)
        · exact .inl e
        · rcases List.mem_cons.1 hq with rfl | hq
          · rw [h] at hh; cases hh
          · exact .inr ⟨q, hq, hh, e⟩

theorem rowsP_len : ∀ (l : List R) (ys : List Int), (rowsP l ys).length ≤ ys.length + 2 * l.length
  | [], ys => by simp [rowsP]
  | r :: l, ys => by
    unfold rowsP
    split
    · have := rowsP_len l ys
      simp; omega
    · have := rowsP_len l (insP r.y1 (insP r.y0 ys))
      have h1 := insP_len r.y1 (insP r.y0 ys)
      have h2 := insP_len r.y0 ys
      simp; omega

/-! ### runs as lists of pairs that do not touch -/
def Good (rs : Runs) : Prop := (∀ p ∈ rs, p.1 < p.2) ∧ rs.Pairwise fun p q => p.2 < q.1

theorem good_can : ∀ {rs : Runs} {B : Int}, Good rs → (∀ p ∈ rs, B < p.1) → CanF false B true (withT rs)
  | [], _, _, _ => trivial
  | p :: rs, B, h, hb => by
    obtain ⟨h1, h2⟩ := List.pairwise_cons.1 h.2
    have := hb p List.mem_cons_self
    exact ⟨by omega, fun e => by omega, by decide, h.1 p List.mem_cons_self, good_can ⟨fun q hq => h.1 q (List.mem_cons_of_mem _ hq), h2⟩ h1⟩

theorem can_good : ∀ {rs : Runs} {B : Int} {u : Bool}, CanF false B u (withT rs) → Good rs ∧ (∀ p ∈ rs, B ≤ p.1 ∧ (p.1 = B → u = false))
  | [], _, _, _ => ⟨⟨by simp, List.Pairwise.nil⟩, by simp⟩
  | p :: rs, B, u, h => by
    obtain ⟨h1, h2, h3, h4, h5⟩ := h
    obtain ⟨g, gb⟩ := can_good h5
    refine ⟨⟨fun q hq => ?_, List.pairwise_cons.2 ⟨fun q hq => ?_, g.2⟩⟩, fun q hq => ?_⟩
    · rcases List.mem_cons.1 hq with rfl | hq
      · exact h4
      · exact g.1 q hq
    · obtain ⟨k1, k2⟩ := gb q hq
      by_cases e : q.1 = p.2
      · exact absurd (k2 e) (by decide)
      · omega
    · rcases List.mem_cons.1 hq with rfl | hq
      · refine ⟨h1, fun e => ?_⟩
        have := h2 e
        cases u
        · rfl
        · exact absurd rfl this
      · obtain ⟨k1, k2⟩ := gb q hq
        exact ⟨by omega, fun e => by omega⟩

theorem low_runs : ∀ rs : Runs, ∃ B : Int, ∀ p ∈ rs, B < p.1
  | [] => ⟨0, by simp⟩
  | p :: rs => by
    obtain ⟨B, h⟩ := low_runs rs
    refine ⟨min B (p.1 - 1), fun q hq => ?_⟩
    rcases List.mem_cons.1 hq with rfl | hq
    · omega
    · have := h q hq; omega

def inR (rs : Runs) (x : Int) : Bool := rs.any fun p => decide (p.1 ≤ x) && decide (x < p.2)

theorem inR_iff (rs : Runs) (x : Int) : inR rs x = true ↔ ∃ p ∈ rs, p.1 ≤ x ∧ x < p.2 := by simp [inR]

theorem runsOf_iff {f : Int → Bool} {rs : Runs} : RunsOf f rs ↔ Good rs ∧ ∀ x, f x = inR rs x := by
  constructor
  · intro h
    obtain ⟨⟨B, hc⟩, _⟩ := id h
    refine ⟨(can_good hc).1, fun x => ?_⟩
    rw [Bool.eq_iff_iff, runs_in h x, inR_iff]
  · rintro ⟨hg, hf⟩
    obtain ⟨B, hB⟩ := low_runs rs
    have hc := good_can hg hB
    refine ⟨⟨B, hc.turn (.inr rfl)⟩, fun x => ?_⟩
    rw [hf x, Bool.eq_iff_iff, inR_iff]
    constructor
    · intro e
      obtain ⟨p, hp, hh⟩ := val_ne (d := false) (l := withT rs) (t := x) (by rw [e]; decide)
      obtain ⟨q, hq, rfl⟩ := List.mem_map.1 hp
      exact ⟨q, hq, hh⟩
    · rintro ⟨p, hp, h1, h2⟩
      exact (hc.sort.tail_from (p.1, p.2, true) (List.mem_map.2 ⟨p, hp, rfl⟩)).2.2.2 x h1 h2

/-! ### add -/
def addGo : Runs → Runs → Int → Int → Runs → Runs
  | [], low, x0, x1, high => low ++ (x0, x1) :: high
  | p :: rs, low, x0, x1, high => if p.2 < x0 then addGo rs (low ++ [p]) x0 x1 high else if x1 < p.1 then addGo rs low x0 x1 (high ++ [p]) else addGo rs low (min x0 p.1) (max x1 p.2) high

def addP (rs : Runs) (x0 x1 : Int) : Runs := addGo rs [] x0 x1 []

theorem addGo_high : ∀ {rs low high : Runs} {x0 x1 : Int}, x0 < x1 → (∀ p ∈ rs, x1 < p.1 ∧ p.1 < p.2) → addGo rs low x0 x1 high = low ++ (x0, x1) :: (high ++ rs)
  | [], low, high, x0, x1, _, _ => by simp [addGo]
  | p :: rs, low, high, x0, x1, hx, h => by
    have := h p List.mem_cons_self
    unfold addGo
    rw [if_neg (by omega), if_pos (by omega), addGo_high hx (fun q hq => h q (List.mem_cons_of_mem _ hq))]
    simp

theorem inR_append (a b : Runs) (x : Int) : inR (a ++ b) x = (inR a x || inR b x) := by simp [inR]
theorem inR_cons (p : Int × Int) (b : Runs) (x : Int) : inR (p :: b) x = ((decide (p.1 ≤ x) && decide (x < p.2)) || inR b x) := by simp [inR]

theorem addGo_ok : ∀ {rs low : Runs} {x0 x1 : Int}, x0 < x1 → Good (low ++ rs) → (∀ p ∈ low, p.2 < x0) →
    Good (addGo rs low x0 x1 []) ∧ ∀ x, inR (addGo rs low x0 x1 []) x = (inR low x || inR rs x || (decide (x0 ≤ x) && decide (x < x1)))
  | [], low, x0, x1, hx, hg, hl => by
    unfold addGo
    rw [List.append_nil] at hg
    refine ⟨⟨fun p hp => ?_, List.pairwise_append.2 ⟨hg.2, List.pairwise_singleton _ _, fun p hp q hq => ?_⟩⟩, fun x => ?_⟩
    · rcases List.mem_append.1 hp with hp | hp
      · exact hg.1 p hp
      · rw [List.mem_singleton.1 hp]; exact hx
    · rw [List.mem_singleton.1 hq]
      exact hl p hp
    · rw [inR_append, inR_cons]
      simp [inR]
  | p :: rs, low, x0, x1, hx, hg, hl => by
    have hp := hg.1 p (by simp)
    obtain ⟨g1, g2, g3⟩ := List.pairwise_append.1 hg.2
    obtain ⟨g4, g5⟩ := List.pairwise_cons.1 g2
    unfold addGo
    by_cases e1 : p.2 < x0
    · rw [if_pos e1]
      obtain ⟨r1, r2⟩ := addGo_ok (rs := rs) (low := low ++ [p]) hx (by rw [List.append_assoc]; exact hg) (fun q hq => by
        rcases List.mem_append.1 hq with hq | hq
        · exact hl q hq
        · rw [List.mem_singleton.1 hq]; exact e1)
      refine ⟨r1, fun x => ?_⟩
      rw [r2 x, inR_append, inR_cons, inR_cons]
      simp only [inR, List.any_nil, Bool.or_false, Bool.or_assoc]
    · rw [if_neg e1]
      by_cases e2 : x1 < p.1
      · rw [if_pos e2]
        have hh : ∀ q ∈ rs, x1 < q.1 ∧ q.1 < q.2 := fun q hq => ⟨by have := g4 q hq; omega, hg.1 q (by simp [hq])⟩
        rw [addGo_high hx hh]
        refine ⟨⟨fun q hq => ?_, List.pairwise_append.2 ⟨g1, List.pairwise_cons.2 ⟨fun q hq => ?_, g2⟩, fun q hq r hr => ?_⟩⟩, fun x => ?_⟩
        · rcases List.mem_append.1 hq with hq | hq
          · exact hg.1 q (by simp [hq])
          · rcases List.mem_cons.1 hq with rfl | hq
            · exact hx
            · exact hg.1 q (List.mem_append.2 (.inr hq))
        · rcases List.mem_cons.1 hq with rfl | hq
          · exact e2
          · exact (hh q hq).1
        · have hq2 := hl q hq
          rcases List.mem_cons.1 hr with rfl | hr
          · exact hq2
          · exact g3 q hq r hr
        · rw [inR_append, inR_cons, List.nil_append, List.singleton_append]
          generalize inR low x = a
          generalize inR (p :: rs) x = b
          generalize (decide (x0 ≤ x) && decide (x < x1)) = c
          cases a <;> cases b <;> cases c <;> rfl
      · rw [if_neg e2]
        obtain ⟨r1, r2⟩ := addGo_ok (rs := rs) (low := low) (x0 := min x0 p.1) (x1 := max x1 p.2) (by omega)
          ⟨fun q hq => hg.1 q (by rcases List.mem_append.1 hq with h | h <;> simp [h]), List.pairwise_append.2 ⟨g1, g5, fun q hq r hr => g3 q hq r (List.mem_cons_of_mem _ hr)⟩⟩
          (fun q hq => by have h1 := hl q hq; have h2 := g3 q hq p List.mem_cons_self; omega)
        refine ⟨r1, fun x => ?_⟩
        rw [r2 x, inR_cons]
        have : (decide (min x0 p.1 ≤ x) && decide (x < max x1 p.2)) = ((decide (p.1 ≤ x) && decide (x < p.2)) || (decide (x0 ≤ x) && decide (x < x1))) := by
          rw [Bool.eq_iff_iff]
          simp only [Bool.and_eq_true, Bool.or_eq_true, decide_eq_true_eq]
          omega
        rw [this]
        generalize inR low x = a
        generalize inR rs x = b
        generalize (decide (x0 ≤ x) && decide (x < x1)) = c
        generalize (decide (p.1 ≤ x) && decide (x < p.2)) = d
        cases a <;> cases b <;> cases c <;> cases d <;> rfl

theorem addP_ok {f : Int → Bool} {rs : Runs} (h : RunsOf f rs) {x0 x1 : Int} (hx : x0 < x1) : RunsOf (fun x => f x || (decide (x0 ≤ x) && decide (x < x1))) (addP rs x0 x1) := by
  obtain ⟨hg, hf⟩ := runsOf_iff.1 h
  obtain ⟨h1, h2⟩ := addGo_ok (rs := rs) (low := []) hx hg (by simp)
  refine runsOf_iff.2 ⟨h1, fun x => ?_⟩
  simp only [addP]
  rw [h2 x, hf x]
  simp [inR]

theorem addGo_len : ∀ (rs low : Runs) (x0 x1 : Int) (high : Runs), (addGo rs low x0 x1 high).length ≤ rs.length + low.length + high.length + 1
  | [], low, x0, x1, high => by simp [addGo]; omega
  | p :: rs, low, x0, x1, high => by
    unfold addGo
    split
    · have := addGo_len rs (low ++ [p]) x0 x1 high
      simp at this ⊢; omega
    · split
      · have := addGo_len rs low x0 x1 (high ++ [p])
        simp at this ⊢; omega
      · have := addGo_len rs low (min x0 p.1) (max x1 p.2) high
        simp at this ⊢; omega

/-! ### the runs of a row -/
def rowP (l : List R) (y : Int) : Runs → Runs
  := fun acc => match l with
  | [] => acc
  | r :: l => rowP l y (if !empB r && decide (r.y0 ≤ y) && decide (y < r.y1) then addP acc r.x0 r.x1 else acc)

theorem rowP_ok : ∀ {l : List R} {y : Int} {f : Int → Bool} {acc : Runs}, RunsOf f acc → RunsOf (fun x => f x || inL l x y) (rowP l y acc)
  | [], y, f, acc, h => by
    unfold rowP
    exact h.congr fun x => by simp [inL]
  | r :: l, y, f, acc, h => by
    unfold rowP
    cases e : (!empB r && decide (r.y0 ≤ y) && decide (y < r.y1))
    · simp only [Bool.false_eq_true, if_false]
      refine (rowP_ok h).congr fun x => ?_
      have hc : conB r x y = false := by
        cases hc : conB r x y
        · rfl
        · obtain ⟨h1, h2⟩ := (con_iff _ _ _).1 hc
          simp [h1, h2] at e
      simp only [inL, List.any_cons, hc, Bool.false_or]
    · simp only [if_true]
      simp only [Bool.and_eq_true, Bool.not_eq_true', decide_eq_true_eq] at e
      have hr := (emp_no r).1 e.1.1
      refine (rowP_ok (addP_ok h (by omega : r.x0 < r.x1))).congr fun x => ?_
      have hc : conB r x y = (decide (r.x0 ≤ x) && decide (x < r.x1)) := by
        rw [Bool.eq_iff_iff, con_iff, Bool.and_eq_true, decide_eq_true_eq, decide_eq_true_eq]
        exact ⟨fun h => ⟨h.2.1, h.2.2.1⟩, fun h => ⟨e.1.1, h.1, h.2, e.1.2, e.2⟩⟩
      simp only [inL, List.any_cons, hc]
      rw [Bool.or_assoc]

theorem rowP_row (l : List R) (y : Int) : RunsOf (fun x => inL l x y) (rowP l y []) := (rowP_ok (runs_nil (f := fun _ => false) fun _ => rfl)).congr fun x => by simp

theorem rowP_len : ∀ (l : List R) (y : Int) (acc : Runs), (rowP l y acc).length ≤ l.length + acc.length
  | [], y, acc => by simp [rowP]
  | r :: l, y, acc => by
    unfold rowP
    have h := rowP_len l y (if !empB r && decide (r.y0 ≤ y) && decide (y < r.y1) then addP acc r.x0 r.x1 else acc)
    have h2 : (if !empB r && decide (r.y0 ≤ y) && decide (y < r.y1) then addP acc r.x0 r.x1 else acc).length ≤ acc.length + 1 := by
      split
      · have := addGo_len acc [] r.x0 r.x1 []
        simpa [addP] using this
      · omega
    simp only [List.length_cons]
    omega

/-! ### two rows combined -/
def flat2 (rs : Runs) : List Int := rs.flatMap fun p => [p.1, p.2]

def insAll : List Int → List Int → List Int
  | [], xs => xs
  | n :: l, xs => insAll l (insP n xs)

theorem insAll_inc : ∀ {l xs : List Int}, xs.Pairwise (· < ·) → (insAll l xs).Pairwise (· < ·)
  | [], _, h => h
  | n :: l, xs, h => by
    unfold insAll
    exact insAll_inc (insP_inc h)

theorem insAll_mem : ∀ {l xs : List Int} {z : Int}, z ∈ insAll l xs ↔ z ∈ xs ∨ z ∈ l
  | [], xs, z => by simp [insAll]
  | n :: l, xs, z => by
    unfold insAll
    rw [insAll_mem, insP_mem, List.mem_cons]
    constructor
    · rintro ((h | h) | h)
      · exact .inr (.inl h)
      · exact .inl h
      · exact .inr (.inr h)
    · rintro (h | h | h)
      · exact .inl (.inr h)
      · exact .inl (.inl h)
      · exact .inr h

theorem insAll_len : ∀ (l xs : List Int), (insAll l xs).length ≤ l.length + xs.length
  | [], xs => by simp [insAll]
  | n :: l, xs => by
    unfold insAll
    have := insAll_len l (insP n xs)
    have := insP_len n xs
    simp; omega

def mergeGo (op : Op2) (a b : Runs) : List Int → Runs → Runs
  | x :: x' :: xs, acc => mergeGo op a b (x' :: xs) (if op (inR a x) (inR b x) then addP acc x x' else acc)
  | _, acc => acc

def mergedP (op : Op2) (a b : Runs) : Runs := mergeGo op a b (insAll (flat2 b) (insAll (flat2 a) [])) []

theorem mem_flat2 {rs : Runs} {z : Int} : z ∈ flat2 rs ↔ ∃ p ∈ rs, z = p.1 ∨ z = p.2 := by simp [flat2]

/-- between two columns at which no run begins or ends a row is constant -/
theorem inR_same {rs : Runs} {u v : Int} (huv : u ≤ v) (h : ∀ p ∈ rs, (p.1 ≤ u ∨ v < p.1) ∧ (p.2 ≤ u ∨ v < p.2)) : inR rs v = inR rs u := by
  rw [Bool.eq_iff_iff, inR_iff, inR_iff]
  constructor
  · rintro ⟨p, hp, h1, h2⟩
    have := h p hp
    exact ⟨p, hp, by omega, by omega⟩
  · rintro ⟨p, hp, h1, h2⟩
    have := h p hp
    exact ⟨p, hp, by omega, by omega⟩

theorem mergeGo_ok {op : Op2} (h0 : op false false = false) {a b : Runs} : ∀ {xs : List Int} {x : Int} {acc : Runs}, (x :: xs).Pairwise (· < ·) →
    (∀ p, p ∈ a ∨ p ∈ b → (p.1 ≤ x ∨ p.1 ∈ xs) ∧ (p.2 ≤ x ∨ p.2 ∈ xs)) →
    RunsOf (fun z => decide (z < x) && op (inR a z) (inR b z)) acc → RunsOf (fun z => op (inR a z) (inR b z)) (mergeGo op a b (x :: xs) acc)
  | [], x, acc, _, hc, h => by
    unfold mergeGo
    refine h.congr fun z => ?_
    by_cases hz : z < x
    · simp [hz]
    · have ea : inR a z = false := by
        cases e : inR a z
        · rfl
        · obtain ⟨p, hp, h1, h2⟩ := (inR_iff _ _).1 e
          have := (hc p (.inl hp)).2
          simp at this; omega
      have eb : inR b z = false := by
        cases e : inR b z
        · rfl
        · obtain ⟨p, hp, h1, h2⟩ := (inR_iff _ _).1 e
          have := (hc p (.inr hp)).2
          simp at this; omega
      simp [ea, eb, h0]
  | x' :: xs, x, acc, hp, hc, h => by
    obtain ⟨p1, p2⟩ := List.pairwise_cons.1 hp
    obtain ⟨p3, _⟩ := List.pairwise_cons.1 p2
    have hx := p1 x' List.mem_cons_self
    unfold mergeGo
    have far : ∀ z, z ≤ x ∨ z ∈ x' :: xs → z ≤ x ∨ x' ≤ z := fun z hz => by
      rcases hz with hz | hz
      · exact .inl hz
      · rcases List.mem_cons.1 hz with rfl | hz
        · exact .inr (Int.le_refl _)
        · exact .inr (by have := p3 z hz; omega)
    have same : ∀ z, x ≤ z → z < x' → inR a z = inR a x ∧ inR b z = inR b x := fun z h1 h2 =>
      ⟨inR_same h1 (fun p hp => by obtain ⟨k1, k2⟩ := hc p (.inl hp); have := far _ k1; have := far _ k2; omega), inR_same h1 (fun p hp => by obtain ⟨k1, k2⟩ := hc p (.inr hp); have := far _ k1; have := far _ k2; omega)⟩
    have next : ∀ p, p ∈ a ∨ p ∈ b → (p.1 ≤ x' ∨ p.1 ∈ xs) ∧ (p.2 ≤ x' ∨ p.2 ∈ xs) := fun p hp => by
      obtain ⟨k1, k2⟩ := hc p hp
      have k : ∀ z, z ≤ x ∨ z ∈ x' :: xs → z ≤ x' ∨ z ∈ xs := fun z hz => by
        rcases hz with hz | hz
        · exact .inl (by omega)
        · rcases List.mem_cons.1 hz with rfl | hz
          · exact .inl (Int.le_refl _)
          · exact .inr hz
      exact ⟨k _ k1, k _ k2⟩
    refine mergeGo_ok h0 p2 next ?_
    cases e : op (inR a x) (inR b x)
    · simp only [Bool.false_eq_true, if_false]
      refine h.congr fun z => ?_
      by_cases h1 : z < x
      · simp [h1, show z < x' by omega]
      · by_cases h2 : z < x'
        · obtain ⟨s1, s2⟩ := same z (by omega) h2
          simp [h1, h2, s1, s2, e]
        · simp [h1, h2]
    · simp only [if_true]
      refine (addP_ok h hx).congr fun z => ?_
      by_cases h1 : z < x
      · simp [h1, show z < x' by omega, show ¬ x ≤ z by omega]
      · by_cases h2 : z < x'
        · obtain ⟨s1, s2⟩ := same z (by omega) h2
          simp [h1, h2, s1, s2, e, show x ≤ z by omega]
        · simp [h1, h2]

theorem mergedP_ok {op : Op2} (h0 : op false false = false) (a b : Runs) : RunsOf (fun z => op (inR a z) (inR b z)) (mergedP op a b) := by
  unfold mergedP
  have hi : (insAll (flat2 b) (insAll (flat2 a) [])).Pairwise (· < ·) := insAll_inc (insAll_inc List.Pairwise.nil)
  have hm : ∀ p, p ∈ a ∨ p ∈ b → p.1 ∈ insAll (flat2 b) (insAll (flat2 a) []) ∧ p.2 ∈ insAll (flat2 b) (insAll (flat2 a) []) := fun p hp => by
    simp only [insAll_mem, mem_flat2, List.not_mem_nil, false_or]
    rcases hp with hp | hp
    · exact ⟨.inl ⟨p, hp, .inl rfl⟩, .inl ⟨p, hp, .inr rfl⟩⟩
    · exact ⟨.inr ⟨p, hp, .inl rfl⟩, .inr ⟨p, hp, .inr rfl⟩⟩
  have hlow : ∀ p, p ∈ a ∨ p ∈ b → ∀ z, inR [p] z = true → p.1 ≤ z := fun p _ z hz => by
    obtain ⟨q, hq, h1, _⟩ := (inR_iff _ _).1 hz
    rw [List.mem_singleton.1 hq] at h1
    exact h1
  generalize insAll (flat2 b) (insAll (flat2 a) []) = xs at hi hm
  cases xs with
  | nil =>
    have ea : a = [] := by cases a with
      | nil => rfl
      | cons p a => have := (hm p (.inl List.mem_cons_self)).1; cases this
    have eb : b = [] := by cases b with
      | nil => rfl
      | cons p b => have := (hm p (.inr List.mem_cons_self)).1; cases this
    subst ea eb
    exact runs_nil fun z => by simp [inR, h0]
  | cons x xs =>
    have hx : ∀ z ∈ x :: xs, z ≤ x ∨ z ∈ xs := fun z hz => by
      rcases List.mem_cons.1 hz with rfl | hz
      · exact .inl (Int.le_refl _)
      · exact .inr hz
    have hge : ∀ z ∈ x :: xs, x ≤ z := fun z hz => by
      rcases List.mem_cons.1 hz with rfl | hz
      · exact Int.le_refl _
      · have := (List.pairwise_cons.1 hi).1 z hz; omega
    refine mergeGo_ok h0 hi (fun p hp => ⟨hx _ (hm p hp).1, hx _ (hm p hp).2⟩) (runs_nil fun z => ?_)
    by_cases hz : z < x
    · have ea : inR a z = false := by
        cases e : inR a z
        · rfl
        · obtain ⟨p, hp, h1, h2⟩ := (inR_iff _ _).1 e
          have := hge _ (hm p (.inl hp)).1; omega
      have eb : inR b z = false := by
        cases e : inR b z
        · rfl
        · obtain ⟨p, hp, h1, h2⟩ := (inR_iff _ _).1 e
          have := hge _ (hm p (.inr hp)).1; omega
      simp [ea, eb, h0]
    · simp [hz]

theorem mergeGo_len {op : Op2} {a b : Runs} : ∀ (xs : List Int) (acc : Runs), (mergeGo op a b xs acc).length ≤ xs.length + acc.length
  | [], acc => by simp [mergeGo]
  | [x], acc => by simp [mergeGo]
  | x :: x' :: xs, acc => by
    unfold mergeGo
    have h := mergeGo_len (op := op) (a := a) (b := b) (x' :: xs) (if op (inR a x) (inR b x) then addP acc x x' else acc)
    have h2 : (if op (inR a x) (inR b x) then addP acc x x' else acc).length ≤ acc.length + 1 := by
      split
      · have := addGo_len acc [] x x' []
        simpa [addP] using this
      · omega
    simp at h ⊢; omega

theorem flat2_len : ∀ rs : Runs, (flat2 rs).length = 2 * rs.length
  | [] => rfl
  | p :: rs => by
    have := flat2_len rs
    simp only [flat2, List.flatMap_cons, List.length_append, List.length_cons] at this ⊢
    rw [this]; simp; omega

theorem mergedP_len (op : Op2) (a b : Runs) : (mergedP op a b).length ≤ 2 * a.length + 2 * b.length := by
  have h1 := mergeGo_len (op := op) (a := a) (b := b) (insAll (flat2 b) (insAll (flat2 a) [])) []
  have h2 := insAll_len (flat2 b) (insAll (flat2 a) [])
  have h3 := insAll_len (flat2 a) []
  rw [flat2_len] at h2 h3
  simp at h1 h3
  unfold mergedP
  omega

/-- the runs of a row of the set, as the reference finds them -/
def rrP (op : Op2) (a b : List R) (y : Int) : Runs := mergedP op (rowP a y []) (rowP b y [])

theorem rrP_ok {op : Op2} (h0 : op false false = false) (a b : List R) (y : Int) : RunsOf (fun x => setS op a b x y) (rrP op a b y) := by
  refine (mergedP_ok h0 (rowP a y []) (rowP b y [])).congr fun x => ?_
  rw [← (runsOf_iff.1 (rowP_row a y)).2 x, ← (runsOf_iff.1 (rowP_row b y)).2 x]
  rfl

theorem rrP_len (op : Op2) (a b : List R) (y : Int) : (rrP op a b y).length ≤ 2 * a.length + 2 * b.length := by
  have h1 := mergedP_len op (rowP a y []) (rowP b y [])
  have h2 := rowP_len a y []
  have h3 := rowP_len b y []
  simp at h2 h3
  unfold rrP
  omega

end Go.Proofs.Ytclnepijbnhdfaa
