/-
  What the reference of package region computes: sorted lists of rows, runs that are added to runs, the runs of a row, their combination.
-/
import Derived.Test.YthedglfocjljjaaGreatDoorRoa
import Derived.Test.YthedglfocjljjaaGreatDoorRows
import Derived.Test.YthedglfocjljjaaGreatDoorMga
import Derived.WalkKit
import Derived.WalkSpells
import Derived.Lib.MinMax
import Derived.Lib.Hide
import Derived.Deep.AppendLies
import Derived.Maps.AppendAt
import Derived.Laws.AppendOwnNone
namespace Go.Proofs.YthedglfocjljjaaGreatDoor.Rgn

def insP (n : Int) : List Int → List Int
  | [] => [n]
  | x :: l => if n ≤ x then (if n < x then n :: x :: l else x :: l) else x :: insP n l

theorem insP_mem {n z : Int} : ∀ {l : List Int}, z ∈ insP n l ↔ z = n ∨ z ∈ l
  | [] => by simp [insP]
  | x :: l => by
    have ih := insP_mem (n := n) (z := z) (l := l)
    unfold insP
    by_cases h1 : n ≤ x
    · rw [if_pos h1]
      by_cases h2 : n < x
      · rw [if_pos h2]; simp
      · rw [if_neg h2]
        have : n = x := by omega
        subst this
        simp
    · rw [if_neg h1]
      simp only [List.mem_cons, ih]
      constructor
      · rintro (h | h | h)
        · exact .inr (.inl h)
        · exact .inl h
        · exact .inr (.inr h)
      · rintro (h | h | h)
        · exact .inr (.inl h)
        · exact .inl h
        · exact .inr (.inr h)

theorem insP_inc {n : Int} : ∀ {l : List Int}, l.Pairwise (· < ·) → (insP n l).Pairwise (· < ·)
  | [], _ => List.pairwise_singleton _ _
  | x :: l, h => by
    obtain ⟨h1, h2⟩ := List.pairwise_cons.1 h
    unfold insP
    by_cases e1 : n ≤ x
    · rw [if_pos e1]
      by_cases e2 : n < x
      · rw [if_pos e2]
        refine List.pairwise_cons.2 ⟨fun z hz => ?_, h⟩
        rcases List.mem_cons.1 hz with rfl | hz
        · exact e2
        · have := h1 z hz; omega
      · rw [if_neg e2]
        exact h
    · rw [if_neg e1]
      refine List.pairwise_cons.2 ⟨fun z hz => ?_, insP_inc h2⟩
      rcases insP_mem.1 hz with rfl | hz
      · omega
      · exact h1 z hz

theorem insP_len (n : Int) : ∀ l : List Int, (insP n l).length ≤ l.length + 1
  | [] => Nat.le_refl _
  | x :: l => by
    have := insP_len n l
    unfold insP
    split
    · split <;> simp
    · simp; omega

def rowsP : List R → List Int → List Int
  | [], ys => ys
  | r :: l, ys => if empB r then rowsP l ys else rowsP l (insP r.y1 (insP r.y0 ys))

theorem rowsP_inc : ∀ {l : List R} {ys : List Int}, ys.Pairwise (· < ·) → (rowsP l ys).Pairwise (· < ·)
  | [], _, h => h
  | r :: l, ys, h => by
    unfold rowsP
    split
    · exact rowsP_inc h
    · exact rowsP_inc (insP_inc (insP_inc h))

theorem rowsP_mem : ∀ {l : List R} {ys : List Int} {z : Int}, z ∈ rowsP l ys ↔ z ∈ ys ∨ ∃ r ∈ l, empB r = false ∧ (z = r.y0 ∨ z = r.y1)
  | [], ys, z => by simp [rowsP]
  | r :: l, ys, z => by
    unfold rowsP
    cases h : empB r
    · simp only [Bool.false_eq_true, if_false]
      rw [rowsP_mem, insP_mem, insP_mem]
      constructor
      · rintro ((e | e | e) | ⟨q, hq, hh⟩)
        · exact .inr ⟨r, List.mem_cons_self, h, .inr e⟩
        · exact .inr ⟨r, List.mem_cons_self, h, .inl e⟩
        · exact .inl e
        · exact .inr ⟨q, List.mem_cons_of_mem _ hq, hh⟩
      · rintro (e | ⟨q, hq, hh, e⟩)
        · exact .inl (.inr (.inr e))
        · rcases List.mem_cons.1 hq with rfl | hq
          · rcases e with e | e
            · exact .inl (.inr (.inl e))
            · exact .inl (.inl e)
          · exact .inr ⟨q, hq, hh, e⟩
    · simp only [if_true]
      rw [rowsP_mem]
      constructor
      · rintro (e | ⟨q, hq, hh⟩)
        · exact .inl e
        · exact .inr ⟨q, List.mem_cons_of_mem _ hq, hh⟩
      · rintro (e | ⟨q, hq, hh, e⟩)
        · exact .inl e
        · rcases List.mem_cons.1 hq with rfl | hq
          · rw [h] at hh; cases hh
          · exact .inr ⟨q, hq, hh, e⟩

theorem rowsP_len : ∀ (l : List R) (ys : List Int), (rowsP l ys).length ≤ ys.length + 2 * l.length
  | [], ys => by simp [rowsP]
  | r :: l, ys => by
    unfold rowsP
    split
    · have := rowsP_len l ys
      simp; omega
    · have := rowsP_len l (insP r.y1 (insP r.y0 ys))
      have h1 := insP_len r.y1 (insP r.y0 ys)
      have h2 := insP_len r.y0 ys
      simp; omega

def Good (rs : Runs) : Prop := (∀ p ∈ rs, p.1 < p.2) ∧ rs.Pairwise fun p q => p.2 < q.1

theorem good_can : ∀ {rs : Runs} {B : Int}, Good rs → (∀ p ∈ rs, B < p.1) → CanF false B true (withT rs)
  | [], _, _, _ => trivial
  | p :: rs, B, h, hb => by
    obtain ⟨h1, h2⟩ := List.pairwise_cons.1 h.2
    have := hb p List.mem_cons_self
    exact ⟨by omega, fun e => by omega, by decide, h.1 p List.mem_cons_self, good_can ⟨fun q hq => h.1 q (List.mem_cons_of_mem _ hq), h2⟩ h1⟩

theorem can_good : ∀ {rs : Runs} {B : Int} {u : Bool}, CanF false B u (withT rs) → Good rs ∧ (∀ p ∈ rs, B ≤ p.1 ∧ (p.1 = B → u = false))
  | [], _, _, _ => ⟨⟨by simp, List.Pairwise.nil⟩, by simp⟩
  | p :: rs, B, u, h => by
    obtain ⟨h1, h2, h3, h4, h5⟩ := h
    obtain ⟨g, gb⟩ := can_good h5
    refine ⟨⟨fun q hq => ?_, List.pairwise_cons.2 ⟨fun q hq => ?_, g.2⟩⟩, fun q hq => ?_⟩
    · rcases List.mem_cons.1 hq with rfl | hq
      · exact h4
      · exact g.1 q hq
    · obtain ⟨k1, k2⟩ := gb q hq
      by_cases e : q.1 = p.2
      · exact absurd (k2 e) (by decide)
      · omega
    · rcases List.mem_cons.1 hq with rfl | hq
      · refine ⟨h1, fun e => ?_⟩
        have := h2 e
        cases u
        · rfl
        · exact absurd rfl this
      · obtain ⟨k1, k2⟩ := gb q hq
        exact ⟨by omega, fun e => by omega⟩

theorem low_runs : ∀ rs : Runs, ∃ B : Int, ∀ p ∈ rs, B < p.1
  | [] => ⟨0, by simp⟩
  | p :: rs => by
    obtain ⟨B, h⟩ := low_runs rs
    refine ⟨min B (p.1 - 1), fun q hq => ?_⟩
    rcases List.mem_cons.1 hq with rfl | hq
    · omega
    · have := h q hq; omega

def inR (rs : Runs) (x : Int) : Bool := rs.any fun p => decide (p.1 ≤ x) && decide (x < p.2)

theorem inR_iff (rs : Runs) (x : Int) : inR rs x = true ↔ ∃ p ∈ rs, p.1 ≤ x ∧ x < p.2 := by simp [inR]

theorem runsOf_iff {f : Int → Bool} {rs : Runs} : RunsOf f rs ↔ Good rs ∧ ∀ x, f x = inR rs x := by
  constructor
  · intro h
    obtain ⟨⟨B, hc⟩, _⟩ := id h
    refine ⟨(can_good hc).1, fun x => ?_⟩
    rw [Bool.eq_iff_iff, runs_in h x, inR_iff]
  · rintro ⟨hg, hf⟩
    obtain ⟨B, hB⟩ := low_runs rs
    have hc := good_can hg hB
    refine ⟨⟨B, hc.turn (.inr rfl)⟩, fun x => ?_⟩
    rw [hf x, Bool.eq_iff_iff, inR_iff]
    constructor
    · intro e
      obtain ⟨p, hp, hh⟩ := val_ne (d := false) (l := withT rs) (t := x) (by rw [e]; decide)
      obtain ⟨q, hq, rfl⟩ := List.mem_map.1 hp
      exact ⟨q, hq, hh⟩
    · rintro ⟨p, hp, h1, h2⟩
      exact (hc.sort.tail_from (p.1, p.2, true) (List.mem_map.2 ⟨p, hp, rfl⟩)).2.2.2 x h1 h2

def addGo : Runs → Runs → Int → Int → Runs → Runs
  | [], low, x0, x1, high => low ++ (x0, x1) :: high
  | p :: rs, low, x0, x1, high => if p.2 < x0 then addGo rs (low ++ [p]) x0 x1 high else if x1 < p.1 then addGo rs low x0 x1 (high ++ [p]) else addGo rs low (min x0 p.1) (max x1 p.2) high

def addP (rs : Runs) (x0 x1 : Int) : Runs := addGo rs [] x0 x1 []

theorem addGo_high : ∀ {rs low high : Runs} {x0 x1 : Int}, x0 < x1 → (∀ p ∈ rs, x1 < p.1 ∧ p.1 < p.2) → addGo rs low x0 x1 high = low ++ (x0, x1) :: (high ++ rs)
  | [], low, high, x0, x1, _, _ => by simp [addGo]
  | p :: rs, low, high, x0, x1, hx, h => by
    have := h p List.mem_cons_self
    unfold addGo
    rw [if_neg (by omega), if_pos (by omega), addGo_high hx (fun q hq => h q (List.mem_cons_of_mem _ hq))]
    simp

theorem inR_append (a b : Runs) (x : Int) : inR (a ++ b) x = (inR a x || inR b x) := by simp [inR]
theorem inR_cons (p : Int × Int) (b : Runs) (x : Int) : inR (p :: b) x = ((decide (p.1 ≤ x) && decide (x < p.2)) || inR b x) := by simp [inR]

theorem addGo_ok : ∀ {rs low : Runs} {x0 x1 : Int}, x0 < x1 → Good (low ++ rs) → (∀ p ∈ low, p.2 < x0) →
    Good (addGo rs low x0 x1 []) ∧ ∀ x, inR (addGo rs low x0 x1 []) x = (inR low x || inR rs x || (decide (x0 ≤ x) && decide (x < x1)))
  | [], low, x0, x1, hx, hg, hl => by
    unfold addGo
    rw [List.append_nil] at hg
    refine ⟨⟨fun p hp => ?_, List.pairwise_append.2 ⟨hg.2, List.pairwise_singleton _ _, fun p hp q hq => ?_⟩⟩, fun x => ?_⟩
    · rcases List.mem_append.1 hp with hp | hp
      · exact hg.1 p hp
      · rw [List.mem_singleton.1 hp]; exact hx
    · rw [List.mem_singleton.1 hq]
      exact hl p hp
    · rw [inR_append, inR_cons]
      simp [inR]
  | p :: rs, low, x0, x1, hx, hg, hl => by
    have hp := hg.1 p (by simp)
    obtain ⟨g1, g2, g3⟩ := List.pairwise_append.1 hg.2
    obtain ⟨g4, g5⟩ := List.pairwise_cons.1 g2
    unfold addGo
    by_cases e1 : p.2 < x0
    · rw [if_pos e1]
      obtain ⟨r1, r2⟩ := addGo_ok (rs := rs) (low := low ++ [p]) hx (by rw [List.append_assoc]; exact hg) (fun q hq => by
        rcases List.mem_append.1 hq with hq | hq
        · exact hl q hq
        · rw [List.mem_singleton.1 hq]; exact e1)
      refine ⟨r1, fun x => ?_⟩
      rw [r2 x, inR_append, inR_cons, inR_cons]
      simp only [inR, List.any_nil, Bool.or_false, Bool.or_assoc]
    · rw [if_neg e1]
      by_cases e2 : x1 < p.1
      · rw [if_pos e2]
        have hh : ∀ q ∈ rs, x1 < q.1 ∧ q.1 < q.2 := fun q hq => ⟨by have := g4 q hq; omega, hg.1 q (by simp [hq])⟩
        rw [addGo_high hx hh]
        refine ⟨⟨fun q hq => ?_, List.pairwise_append.2 ⟨g1, List.pairwise_cons.2 ⟨fun q hq => ?_, g2⟩, fun q hq r hr => ?_⟩⟩, fun x => ?_⟩
        · rcases List.mem_append.1 hq with hq | hq
          · exact hg.1 q (by simp [hq])
          · rcases List.mem_cons.1 hq with rfl | hq
            · exact hx
            · exact hg.1 q (List.mem_append.2 (.inr hq))
        · rcases List.mem_cons.1 hq with rfl | hq
          · exact e2
          · exact (hh q hq).1
        · have hq2 := hl q hq
          rcases List.mem_cons.1 hr with rfl | hr
          · exact hq2
          · exact g3 q hq r hr
        · rw [inR_append, inR_cons, List.nil_append, List.singleton_append]
          generalize inR low x = a
          generalize inR (p :: rs) x = b
          generalize (decide (x0 ≤ x) && decide (x < x1)) = c
          cases a <;> cases b <;> cases c <;> rfl
      · rw [if_neg e2]
        obtain ⟨r1, r2⟩ := addGo_ok (rs := rs) (low := low) (x0 := min x0 p.1) (x1 := max x1 p.2) (by omega)
          ⟨fun q hq => hg.1 q (by rcases List.mem_append.1 hq with h | h <;> simp [h]), List.pairwise_append.2 ⟨g1, g5, fun q hq r hr => g3 q hq r (List.mem_cons_of_mem _ hr)⟩⟩
          (fun q hq => by have h1 := hl q hq; have h2 := g3 q hq p List.mem_cons_self; omega)
        refine ⟨r1, fun x => ?_⟩
        rw [r2 x, inR_cons]
        have : (decide (min x0 p.1 ≤ x) && decide (x < max x1 p.2)) = ((decide (p.1 ≤ x) && decide (x < p.2)) || (decide (x0 ≤ x) && decide (x < x1))) := by
          rw [Bool.eq_iff_iff]
          simp only [Bool.and_eq_true, Bool.or_eq_true, decide_eq_true_eq]
          omega
        rw [this]
        generalize inR low x = a
        generalize inR rs x = b
        generalize (decide (x0 ≤ x) && decide (x < x1)) = c
        generalize (decide (p.1 ≤ x) && decide (x < p.2)) = d
        cases a <;> cases b <;> cases c <;> cases d <;> rfl

theorem addP_ok {f : Int → Bool} {rs : Runs} (h : RunsOf f rs) {x0 x1 : Int} (hx : x0 < x1) : RunsOf (fun x => f x || (decide (x0 ≤ x) && decide (x < x1))) (addP rs x0 x1) := by
  obtain ⟨hg, hf⟩ := runsOf_iff.1 h
  obtain ⟨h1, h2⟩ := addGo_ok (rs := rs) (low := []) hx hg (by simp)
  refine runsOf_iff.2 ⟨h1, fun x => ?_⟩
  simp only [addP]
  rw [h2 x, hf x]
  simp [inR]

theorem addGo_len : ∀ (rs low : Runs) (x0 x1 : Int) (high : Runs), (addGo rs low x0 x1 high).length ≤ rs.length + low.length + high.length + 1
  | [], low, x0, x1, high => by simp [addGo]; omega
  | p :: rs, low, x0, x1, high => by
    unfold addGo
    split
    · have := addGo_len rs (low ++ [p]) x0 x1 high
      simp at this ⊢; omega
    · split
      · have := addGo_len rs low x0 x1 (high ++ [p])
        simp at this ⊢; omega
      · have := addGo_len rs low (min x0 p.1) (max x1 p.2) high
        simp at this ⊢; omega

def rowP (l : List R) (y : Int) : Runs → Runs
  := fun acc => match l with
  | [] => acc
  | r :: l => rowP l y (if !empB r && decide (r.y0 ≤ y) && decide (y < r.y1) then addP acc r.x0 r.x1 else acc)

theorem rowP_ok : ∀ {l : List R} {y : Int} {f : Int → Bool} {acc : Runs}, RunsOf f acc → RunsOf (fun x => f x || inL l x y) (rowP l y acc)
  | [], y, f, acc, h => by
    unfold rowP
    exact h.congr fun x => by simp [inL]
  | r :: l, y, f, acc, h => by
    unfold rowP
    cases e : (!empB r && decide (r.y0 ≤ y) && decide (y < r.y1))
    · simp only [Bool.false_eq_true, if_false]
      refine (rowP_ok h).congr fun x => ?_
      have hc : conB r x y = false := by
        cases hc : conB r x y
        · rfl
        · obtain ⟨h1, h2⟩ := (con_iff _ _ _).1 hc
          simp [h1, h2] at e
      simp only [inL, List.any_cons, hc, Bool.false_or]
    · simp only [if_true]
      simp only [Bool.and_eq_true, Bool.not_eq_true', decide_eq_true_eq] at e
      have hr := (emp_no r).1 e.1.1
      refine (rowP_ok (addP_ok h (by omega : r.x0 < r.x1))).congr fun x => ?_
      have hc : conB r x y = (decide (r.x0 ≤ x) && decide (x < r.x1)) := by
        rw [Bool.eq_iff_iff, con_iff, Bool.and_eq_true, decide_eq_true_eq, decide_eq_true_eq]
        exact ⟨fun h => ⟨h.2.1, h.2.2.1⟩, fun h => ⟨e.1.1, h.1, h.2, e.1.2, e.2⟩⟩
      simp only [inL, List.any_cons, hc]
      rw [Bool.or_assoc]

theorem rowP_row (l : List R) (y : Int) : RunsOf (fun x => inL l x y) (rowP l y []) := (rowP_ok (runs_nil (f := fun _ => false) fun _ => rfl)).congr fun x => by simp

theorem rowP_len : ∀ (l : List R) (y : Int) (acc : Runs), (rowP l y acc).length ≤ l.length + acc.length
  | [], y, acc => by simp [rowP]
  | r :: l, y, acc => by
    unfold rowP
    have h := rowP_len l y (if !empB r && decide (r.y0 ≤ y) && decide (y < r.y1) then addP acc r.x0 r.x1 else acc)
    have h2 : (if !empB r && decide (r.y0 ≤ y) && decide (y < r.y1) then addP acc r.x0 r.x1 else acc).length ≤ acc.length + 1 := by
      split
      · have := addGo_len acc [] r.x0 r.x1 []
        simpa [addP] using this
      · omega
    simp only [List.length_cons]
    omega

def flat2 (rs : Runs) : List Int := rs.flatMap fun p => [p.1, p.2]

def insAll : List Int → List Int → List Int
  | [], xs => xs
  | n :: l, xs => insAll l (insP n xs)

theorem insAll_inc : ∀ {l xs : List Int}, xs.Pairwise (· < ·) → (insAll l xs).Pairwise (· < ·)
  | [], _, h => h
  | n :: l, xs, h => by
    unfold insAll
    exact insAll_inc (insP_inc h)

theorem insAll_mem : ∀ {l xs : List Int} {z : Int}, z ∈ insAll l xs ↔ z ∈ xs ∨ z ∈ l
  | [], xs, z => by simp [insAll]
  | n :: l, xs, z => by
    unfold insAll
    rw [insAll_mem, insP_mem, List.mem_cons]
    constructor
    · rintro ((h | h) | h)
      · exact .inr (.inl h)
      · exact .inl h
      · exact .inr (.inr h)
    · rintro (h | h | h)
      · exact .inl (.inr h)
      · exact .inl (.inl h)
      · exact .inr h

theorem insAll_len : ∀ (l xs : List Int), (insAll l xs).length ≤ l.length + xs.length
  | [], xs => by simp [insAll]
  | n :: l, xs => by
    unfold insAll
    have := insAll_len l (insP n xs)
    have := insP_len n xs
    simp; omega

def mergeGo (op : Op2) (a b : Runs) : List Int → Runs → Runs
  | x :: x' :: xs, acc => mergeGo op a b (x' :: xs) (if op (inR a x) (inR b x) then addP acc x x' else acc)
  | _, acc => acc

def mergedP (op : Op2) (a b : Runs) : Runs := mergeGo op a b (insAll (flat2 b) (insAll (flat2 a) [])) []

theorem mem_flat2 {rs : Runs} {z : Int} : z ∈ flat2 rs ↔ ∃ p ∈ rs, z = p.1 ∨ z = p.2 := by simp [flat2]

theorem inR_same {rs : Runs} {u v : Int} (huv : u ≤ v) (h : ∀ p ∈ rs, (p.1 ≤ u ∨ v < p.1) ∧ (p.2 ≤ u ∨ v < p.2)) : inR rs v = inR rs u := by
  rw [Bool.eq_iff_iff, inR_iff, inR_iff]
  constructor
  · rintro ⟨p, hp, h1, h2⟩
    have := h p hp
    exact ⟨p, hp, by omega, by omega⟩
  · rintro ⟨p, hp, h1, h2⟩
    have := h p hp
    exact ⟨p, hp, by omega, by omega⟩

theorem mergeGo_ok {op : Op2} (h0 : op false false = false) {a b : Runs} : ∀ {xs : List Int} {x : Int} {acc : Runs}, (x :: xs).Pairwise (· < ·) →
    (∀ p, p ∈ a ∨ p ∈ b → (p.1 ≤ x ∨ p.1 ∈ xs) ∧ (p.2 ≤ x ∨ p.2 ∈ xs)) →
    RunsOf (fun z => decide (z < x) && op (inR a z) (inR b z)) acc → RunsOf (fun z => op (inR a z) (inR b z)) (mergeGo op a b (x :: xs) acc)
  | [], x, acc, _, hc, h => by
    unfold mergeGo
    refine h.congr fun z => ?_
    by_cases hz : z < x
    · simp [hz]
    · have ea : inR a z = false := by
        cases e : inR a z
        · rfl
        · obtain ⟨p, hp, h1, h2⟩ := (inR_iff _ _).1 e
          have := (hc p (.inl hp)).2
          simp at this; omega
      have eb : inR b z = false := by
        cases e : inR b z
        · rfl
        · obtain ⟨p, hp, h1, h2⟩ := (inR_iff _ _).1 e
          have := (hc p (.inr hp)).2
          simp at this; omega
      simp [ea, eb, h0]
  | x' :: xs, x, acc, hp, hc, h => by
    obtain ⟨p1, p2⟩ := List.pairwise_cons.1 hp
    obtain ⟨p3, _⟩ := List.pairwise_cons.1 p2
    have hx := p1 x' List.mem_cons_self
    unfold mergeGo
    have far : ∀ z, z ≤ x ∨ z ∈ x' :: xs → z ≤ x ∨ x' ≤ z := fun z hz => by
      rcases hz with hz | hz
      · exact .inl hz
      · rcases List.mem_cons.1 hz with rfl | hz
        · exact .inr (Int.le_refl _)
        · exact .inr (by have := p3 z hz; omega)
    have same : ∀ z, x ≤ z → z < x' → inR a z = inR a x ∧ inR b z = inR b x := fun z h1 h2 =>
      ⟨inR_same h1 (fun p hp => by obtain ⟨k1, k2⟩ := hc p (.inl hp); have := far _ k1; have := far _ k2; omega), inR_same h1 (fun p hp => by obtain ⟨k1, k2⟩ := hc p (.inr hp); have := far _ k1; have := far _ k2; omega)⟩
    have next : ∀ p, p ∈ a ∨ p ∈ b → (p.1 ≤ x' ∨ p.1 ∈ xs) ∧ (p.2 ≤ x' ∨ p.2 ∈ xs) := fun p hp => by
      obtain ⟨k1, k2⟩ := hc p hp
      have k : ∀ z, z ≤ x ∨ z ∈ x' :: xs → z ≤ x' ∨ z ∈ xs := fun z hz => by
        rcases hz with hz | hz
        · exact .inl (by omega)
        · rcases List.mem_cons.1 hz with rfl | hz
          · exact .inl (Int.le_refl _)
          · exact .inr hz
      exact ⟨k _ k1, k _ k2⟩
    refine mergeGo_ok h0 p2 next ?_
    cases e : op (inR a x) (inR b x)
    · simp only [Bool.false_eq_true, if_false]
      refine h.congr fun z => ?_
      by_cases h1 : z < x
      · simp [h1, show z < x' by omega]
      · by_cases h2 : z < x'
        · obtain ⟨s1, s2⟩ := same z (by omega) h2
          simp [h1, h2, s1, s2, e]
        · simp [h1, h2]
    · simp only [if_true]
      refine (addP_ok h hx).congr fun z => ?_
      by_cases h1 : z < x
      · simp [h1, show z < x' by omega, show ¬ x ≤ z by omega]
      · by_cases h2 : z < x'
        · obtain ⟨s1, s2⟩ := same z (by omega) h2
          simp [h1, h2, s1, s2, e, show x ≤ z by omega]
        · simp [h1, h2]

theorem mergedP_ok {op : Op2} (h0 : op false false = false) (a b : Runs) : RunsOf (fun z => op (inR a z) (inR b z)) (mergedP op a b) := by
  unfold mergedP
  have hi : (insAll (flat2 b) (insAll (flat2 a) [])).Pairwise (· < ·) := insAll_inc (insAll_inc List.Pairwise.nil)
  have hm : ∀ p, p ∈ a ∨ p ∈ b → p.1 ∈ insAll (flat2 b) (insAll (flat2 a) []) ∧ p.2 ∈ insAll (flat2 b) (insAll (flat2 a) []) := fun p hp => by
    simp only [insAll_mem, mem_flat2, List.not_mem_nil, false_or]
    rcases hp with hp | hp
    · exact ⟨.inl ⟨p, hp, .inl rfl⟩, .inl ⟨p, hp, .inr rfl⟩⟩
    · exact ⟨.inr ⟨p, hp, .inl rfl⟩, .inr ⟨p, hp, .inr rfl⟩⟩
  have hlow : ∀ p, p ∈ a ∨ p ∈ b → ∀ z, inR [p] z = true → p.1 ≤ z := fun p _ z hz => by
    obtain ⟨q, hq, h1, _⟩ := (inR_iff _ _).1 hz
    rw [List.mem_singleton.1 hq] at h1
    exact h1
  generalize insAll (flat2 b) (insAll (flat2 a) []) = xs at hi hm
  cases xs with
  | nil =>
    have ea : a = [] := by cases a with
      | nil => rfl
      | cons p a => have := (hm p (.inl List.mem_cons_self)).1; cases this
    have eb : b = [] := by cases b with
      | nil => rfl
      | cons p b => have := (hm p (.inr List.mem_cons_self)).1; cases this
    subst ea eb
    exact runs_nil fun z => by simp [inR, h0]
  | cons x xs =>
    have hx : ∀ z ∈ x :: xs, z ≤ x ∨ z ∈ xs := fun z hz => by
      rcases List.mem_cons.1 hz with rfl | hz
      · exact .inl (Int.le_refl _)
      · exact .inr hz
    have hge : ∀ z ∈ x :: xs, x ≤ z := fun z hz => by
      rcases List.mem_cons.1 hz with rfl | hz
      · exact Int.le_refl _
      · have := (List.pairwise_cons.1 hi).1 z hz; omega
    refine mergeGo_ok h0 hi (fun p hp => ⟨hx _ (hm p hp).1, hx _ (hm p hp).2⟩) (runs_nil fun z => ?_)
    by_cases hz : z < x
    · have ea : inR a z = false := by
        cases e : inR a z
        · rfl
        · obtain ⟨p, hp, h1, h2⟩ := (inR_iff _ _).1 e
          have := hge _ (hm p (.inl hp)).1; omega
      have eb : inR b z = false := by
        cases e : inR b z
        · rfl
        · obtain ⟨p, hp, h1, h2⟩ := (inR_iff _ _).1 e
          have := hge _ (hm p (.inr hp)).1; omega
      simp [ea, eb, h0]
    · simp [hz]

theorem mergeGo_len {op : Op2} {a b : Runs} : ∀ (xs : List Int) (acc : Runs), (mergeGo op a b xs acc).length ≤ xs.length + acc.length
  | [], acc => by simp [mergeGo]
  | [x], acc => by simp [mergeGo]
  | x :: x' :: xs, acc => by
    unfold mergeGo
    have h := mergeGo_len (op := op) (a := a) (b := b) (x' :: xs) (if op (inR a x) (inR b x) then addP acc x x' else acc)
    have h2 : (if op (inR a x) (inR b x) then addP acc x x' else acc).length ≤ acc.length + 1 := by
      split
      · have := addGo_len acc [] x x' []
        simpa [addP] using this
      · omega
    simp at h ⊢; omega

theorem flat2_len : ∀ rs : Runs, (flat2 rs).length = 2 * rs.length
  | [] => rfl
  | p :: rs => by
    have := flat2_len rs
    simp only [flat2, List.flatMap_cons, List.length_append, List.length_cons] at this ⊢
    rw [this]; simp; omega

theorem mergedP_len (op : Op2) (a b : Runs) : (mergedP op a b).length ≤ 2 * a.length + 2 * b.length := by
  have h1 := mergeGo_len (op := op) (a := a) (b := b) (insAll (flat2 b) (insAll (flat2 a) [])) []
  have h2 := insAll_len (flat2 b) (insAll (flat2 a) [])
  have h3 := insAll_len (flat2 a) []
  rw [flat2_len] at h2 h3
  simp at h1 h3
  unfold mergedP
  omega

def rrP (op : Op2) (a b : List R) (y : Int) : Runs := mergedP op (rowP a y []) (rowP b y [])

theorem rrP_ok {op : Op2} (h0 : op false false = false) (a b : List R) (y : Int) : RunsOf (fun x => setS op a b x y) (rrP op a b y) := by
  refine (mergedP_ok h0 (rowP a y []) (rowP b y [])).congr fun x => ?_
  rw [← (runsOf_iff.1 (rowP_row a y)).2 x, ← (runsOf_iff.1 (rowP_row b y)).2 x]
  rfl

theorem rrP_len (op : Op2) (a b : List R) (y : Int) : (rrP op a b y).length ≤ 2 * a.length + 2 * b.length := by
  have h1 := mergedP_len op (rowP a y []) (rowP b y [])
  have h2 := rowP_len a y []
  have h3 := rowP_len b y []
  simp at h2 h3
  unfold rrP
  omega

def tailC (cur : Band) (L : List Band) : List Band := if cur.2.2 = [] then comps L else comp cur L

theorem bandR_nil (lo hi : Int) : bandR (lo, hi, []) = [] := rfl
theorem bandR_len (b : Band) : (bandR b).length = b.2.2.length := by simp [bandR]
theorem flatB_cons (b : Band) (L : List Band) : flatB (b :: L) = bandR b ++ flatB L := rfl

theorem tailC_start (lo hi : Int) (L : List Band) : tailC (lo, hi, []) L = comps L := by simp [tailC]

theorem tailC_end (cur : Band) : flatB (tailC cur []) = bandR cur := by
  obtain ⟨lo, hi, v⟩ := cur
  unfold tailC
  by_cases h : v = []
  · subst h; simp [comps, flatB, bandR]
  · simp [h, comp, flatB]

theorem tailC_merge {lo y y' : Int} {v : Runs} {L : List Band} (hv : v ≠ []) : tailC (lo, y, v) ((y, y', v) :: L) = tailC (lo, y', v) L := by
  unfold tailC
  simp only [hv, if_false]
  rw [comp, if_pos ⟨rfl, rfl⟩]

theorem tailC_new {cur : Band} {y y' : Int} {v : Runs} {L : List Band} (hv : v ≠ []) (h : ¬ (cur.2.1 = y ∧ cur.2.2 = v)) : flatB (tailC cur ((y, y', v) :: L)) = bandR cur ++ flatB (tailC (y, y', v) L) := by
  obtain ⟨lo, hi, u⟩ := cur
  unfold tailC
  simp only [hv, if_false]
  by_cases hu : u = []
  · subst hu
    simp [comps, bandR]
  · simp only [hu, if_false]
    rw [comp, if_neg h]
    rfl

theorem tailC_gap {cur : Band} {L : List Band} (a b : Int) (h : cur.2.2 ≠ [] → ∀ p ∈ L.head?, cur.2.1 ≠ p.1) : flatB (tailC cur L) = bandR cur ++ flatB (tailC (a, b, []) L) := by
  obtain ⟨lo, hi, u⟩ := cur
  rw [tailC_start]
  unfold tailC
  by_cases hu : u = []
  · subst hu
    simp [bandR]
  · simp only [hu, if_false]
    cases L with
    | nil => simp [comp, comps, flatB]
    | cons p L =>
      obtain ⟨lo', hi', v'⟩ := p
      rw [comp, if_neg (fun e => h hu (lo', hi', v') (by simp) e.1)]
      rfl

def mixB (D : List R) (lo y y' : Int) (v : Runs) (i : Nat) : List R := D ++ ((bandR (lo, y', v)).take i ++ (bandR (lo, y, v)).drop i)

theorem mixB_start (D : List R) (lo y y' : Int) (v : Runs) : mixB D lo y y' v 0 = D ++ bandR (lo, y, v) := by simp [mixB]
theorem mixB_end (D : List R) (lo y y' : Int) (v : Runs) {i : Nat} (h : v.length ≤ i) : mixB D lo y y' v i = D ++ bandR (lo, y', v) := by
  unfold mixB
  rw [List.take_of_length_le (by rw [bandR_len]; exact h), List.drop_eq_nil_of_le (by rw [bandR_len]; exact h), List.append_nil]

theorem mixB_len (D : List R) (lo y y' : Int) (v : Runs) (i : Nat) : (mixB D lo y y' v i).length = D.length + v.length := by
  have h1 := bandR_len (lo, y', v)
  have h2 := bandR_len (lo, y, v)
  simp only at h1 h2
  simp only [mixB, List.length_append, List.length_take, List.length_drop, h1, h2]
  omega

theorem bandR_at {lo hi : Int} {v : Runs} {i : Nat} {p : Int × Int} (h : v[i]? = some p) : (bandR (lo, hi, v))[i]? = some ⟨p.1, lo, p.2, hi⟩ := by simp [bandR, h]

theorem mixB_at {D : List R} {lo y y' : Int} {v : Runs} {i : Nat} {p : Int × Int} (h : v[i]? = some p) : (mixB D lo y y' v i)[D.length + i]? = some ⟨p.1, lo, p.2, y⟩ ∧ (mixB D lo y y' v i).set (D.length + i) ⟨p.1, lo, p.2, y'⟩ = mixB D lo y y' v (i + 1) := by
  have hi := (List.getElem?_eq_some_iff.1 h).1
  have hl : ((bandR (lo, y', v)).take i).length = i := by rw [List.length_take, bandR_len]; simp only; omega
  have hd : (bandR (lo, y, v)).drop i = ⟨p.1, lo, p.2, y⟩ :: (bandR (lo, y, v)).drop (i + 1) := by
    have h2 := bandR_at (lo := lo) (hi := y) h
    obtain ⟨h3, h4⟩ := List.getElem?_eq_some_iff.1 h2
    rw [← h4]
    exact List.drop_eq_getElem_cons h3
  unfold mixB
  constructor
  · rw [List.getElem?_append_right (by omega), List.getElem?_append_right (by omega), hl, hd]
    have e : D.length + i - D.length - i = 0 := by omega
    rw [e]
    rfl
  · rw [List.set_append_right _ _ (by omega), List.set_append_right _ _ (by omega), hl, hd]
    have e : D.length + i - D.length - i = 0 := by omega
    rw [e, List.set_cons_zero, List.take_add_one, bandR_at h]
    simp

theorem stripsY_head {rr : Int → Runs} : ∀ {ys : List Int} {t : Int}, (t :: ys).Pairwise (· < ·) → ∀ p ∈ (stripsY rr t ys).head?, t ≤ p.1
  | [], t, _, p, h => by simp [stripsY] at h
  | y :: ys, t, hp, p, h => by
    obtain ⟨p1, p2⟩ := List.pairwise_cons.1 hp
    unfold stripsY at h
    split at h
    · have := stripsY_head p2 p h
      have := p1 y List.mem_cons_self
      omega
    · simp at h
      rw [← h]
      exact Int.le_refl _

def regionP (rr : Int → Runs) : List Int → List R
  | [] => []
  | y :: ys => flatB (comps (stripsY rr y ys))

theorem regionP_ok {op : Op2} (h0 : op false false = false) (a b : List R) {rr : Int → Runs} (hr : ∀ y, RunsOf (fun x => setS op a b x y) (rr y)) {ys : List Int} (hp : ys.Pairwise (· < ·))
    (ha : ∀ r ∈ a, empB r = false → r.y0 ∈ ys ∧ r.y1 ∈ ys) (hb : ∀ r ∈ b, empB r = false → r.y0 ∈ ys ∧ r.y1 ∈ ys) : Region (setS op a b) (regionP rr ys) := by
  obtain ⟨t, ht1, ht2⟩ : ∃ t : Int, t < -16384 ∧ ∀ y ∈ ys, t < y := by
    obtain ⟨B, hB⟩ := low_runs (ys.map fun y => (y, y))
    refine ⟨min B (-16385), by omega, fun y hy => ?_⟩
    have := hB (y, y) (List.mem_map.2 ⟨y, hy, rfl⟩)
    simp only at this
    omega
  have hs := stripsY_strips h0 hr (ys := ys) (t := t) (List.pairwise_cons.2 ⟨ht2, hp⟩) (fun r h he => ⟨.inr (ha r h he).1, .inr (ha r h he).2⟩) (fun r h he => ⟨.inr (hb r h he).1, .inr (hb r h he).2⟩) ht1
  have hz : rr t = [] := runs_unique (hr t) (runs_nil fun x => by
    cases e : setS op a b x t
    · rfl
    · have := setS_inside h0 a b x t e; omega)
  have h := region_of_strips hs
  cases ys with
  | nil => simpa [stripsY, comps, flatB, regionP] using h
  | cons y ys =>
    simp only [stripsY, hz, if_true] at h
    exact h

def ysP (a b : List R) : List Int := rowsP b (rowsP a [])

theorem ysP_inc (a b : List R) : (ysP a b).Pairwise (· < ·) := rowsP_inc (rowsP_inc List.Pairwise.nil)
theorem ysP_mem {a b : List R} {z : Int} : z ∈ ysP a b ↔ (∃ r ∈ a, empB r = false ∧ (z = r.y0 ∨ z = r.y1)) ∨ ∃ r ∈ b, empB r = false ∧ (z = r.y0 ∨ z = r.y1) := by
  simp [ysP, rowsP_mem]

def combP (op : Op2) (a b : List R) : List R := regionP (rrP op a b) (ysP a b)

theorem combP_ok {op : Op2} (h0 : op false false = false) (a b : List R) : Region (setS op a b) (combP op a b) :=
  regionP_ok h0 a b (fun y => rrP_ok h0 a b y) (ysP_inc a b) (fun r h he => ⟨ysP_mem.2 (.inl ⟨r, h, he, .inl rfl⟩), ysP_mem.2 (.inl ⟨r, h, he, .inr rfl⟩)⟩) (fun r h he => ⟨ysP_mem.2 (.inr ⟨r, h, he, .inl rfl⟩), ysP_mem.2 (.inr ⟨r, h, he, .inr rfl⟩)⟩)

end Go.Proofs.YthedglfocjljjaaGreatDoor.Rgn
namespace Go.Proofs.YthedglfocjljjaaGreatDoor.Rgn
open Go.RowKit

theorem bcell {W w1 : World} (hb : Below W.heap.size W w1) : (∀ b o, b < W.heap.size → w1.cell? ⟨b, o, none⟩ = W.cell? ⟨b, o, none⟩) ∧ (∀ b o, b < W.heap.size → w1.frozen? ⟨b, o, none⟩ = W.frozen? ⟨b, o, none⟩) :=
  ⟨fun b o h => hb.cell (p := ⟨b, o, none⟩) h, fun b o h => hb.frozen (p := ⟨b, o, none⟩) h⟩

theorem ret_bool {a b : Bool} (h : a = b) : Ending.returned (.bool a) = .returned (.bool b) := by rw [h]

set_option maxRecDepth 100000 in
set_option maxHeartbeats 1000000 in
theorem near_any (n lo hi : Int) (w : World) : Calls Tryz.prog 159 #[.int .i64 n, .int .i64 lo, .int .i64 hi] w fun e w' => e = .returned (.int .i64 (min (max n lo) hi)) ∧ w = w' := by
  go_enter Tryz.func159, Tryz.ntmps159
  go_wp2
  go_ret
  exact ⟨rfl, rfl⟩

set_option maxRecDepth 100000 in
set_option maxHeartbeats 1000000 in
theorem okc_any (n : Int) (w : World) : Calls Tryz.prog 139 #[.int .i64 n] w fun e w' => e = .returned (.bool (okC n)) ∧ w = w' := by
  rw [← okC_near]
  go_enter Tryz.func139, Tryz.ntmps139
  go_wp2_with fail
  refine (near_any _ _ _ _).mono ?_
  rintro e w' ⟨rfl, rfl⟩
  go_wp2
  go_ret
  exact ⟨rfl, rfl⟩

set_option maxRecDepth 100000 in
set_option maxHeartbeats 1000000 in
theorem valid_any (r : R) (w : World) : Calls Tryz.prog 133 #[.agg #[.int .i64 r.x0, .int .i64 r.y0, .int .i64 r.x1, .int .i64 r.y1]] w fun e w' => e = .returned (.bool (vldB r)) ∧ Below w.heap.size w w' := by
  obtain ⟨v, hv⟩ : ∃ v, vldB r = v := ⟨_, rfl⟩
  rw [hv]
  unfold vldB at hv
  cases h0 : okC r.x0 <;> cases h1 : okC r.y0 <;> cases h2 : okC r.x1 <;> cases h3 : okC r.y1 <;> (rw [h0, h1, h2, h3] at hv; simp at hv; subst hv)
  all_goals
    go_enter Tryz.func133, Tryz.ntmps133
    go_wp2_with (with_reducible refine (okc_any _ _).mono ?_; rintro e w' ⟨rfl, rfl⟩)
    go_ret
    exact ⟨rfl, (Below.refl _ _).alloc (Nat.le_refl _) _⟩

set_option maxRecDepth 100000 in
set_option maxHeartbeats 1000000 in
theorem empty_any (r : R) (w : World) : Calls Tryz.prog 124 #[.agg #[.int .i64 r.x0, .int .i64 r.y0, .int .i64 r.x1, .int .i64 r.y1]] w fun e w' => e = .returned (.bool (empB r)) ∧ Below w.heap.size w w' := by
  obtain ⟨v, hv⟩ : ∃ v, empB r = v := ⟨_, rfl⟩
  rw [hv]
  unfold empB at hv
  cases h0 : vldB r <;> by_cases h1 : r.x1 ≤ r.x0 <;> by_cases h2 : r.y1 ≤ r.y0 <;> (rw [h0] at hv; simp [h1, h2] at hv; subst hv)
  all_goals
    go_enter Tryz.func124, Tryz.ntmps124
    go_wp2_with fail
    refine (valid_any _ _).mono ?_
    rintro e w1 ⟨rfl, hb⟩
    obtain ⟨hc, hf⟩ := bcell hb
    go_wp2
    go_ret
    exact ⟨ret_bool (by clear hc hf hb; simp [*]), ((Below.refl _ _).alloc (Nat.le_refl _) _).trans (hb.mono (by simp))⟩

def Four (W : World) (k : Nat) (x0 x1 x2 x3 : Value) : Prop := W.cell? ⟨k, 0, none⟩ = some x0 ∧ W.cell? ⟨k, 1, none⟩ = some x1 ∧ W.cell? ⟨k, 2, none⟩ = some x2 ∧ W.cell? ⟨k, 3, none⟩ = some x3 ∧ ∀ i, W.frozen? ⟨k, i, none⟩ = false

def set4 (W : World) (k : Nat) (x0 x1 x2 x3 : Value) : World := (((W.setCell ⟨k, 0, none⟩ x0).setCell ⟨k, 1, none⟩ x1).setCell ⟨k, 2, none⟩ x2).setCell ⟨k, 3, none⟩ x3

theorem Four.keep {W w1 : World} {B k : Nat} {x0 x1 x2 x3 : Value} (h : Four W k x0 x1 x2 x3) (hb : Below B W w1) (hk : k < B) : Four w1 k x0 x1 x2 x3 :=
  ⟨(hb.cell (p := ⟨k, 0, none⟩) hk).trans h.1, (hb.cell (p := ⟨k, 1, none⟩) hk).trans h.2.1, (hb.cell (p := ⟨k, 2, none⟩) hk).trans h.2.2.1, (hb.cell (p := ⟨k, 3, none⟩) hk).trans h.2.2.2.1, fun i => (hb.frozen (p := ⟨k, i, none⟩) hk).trans (h.2.2.2.2 i)⟩

theorem Four.set {W : World} {k : Nat} {x0 x1 x2 x3 y0 y1 y2 y3 : Value} (h : Four W k x0 x1 x2 x3) : Four (set4 W k y0 y1 y2 y3) k y0 y1 y2 y3 := by
  obtain ⟨h0, h1, h2, h3, h4⟩ := h
  unfold Four set4
  simp [go_sem, h0, h1, h2, h3, h4]

theorem Four.far {W : World} {k j : Nat} {x0 x1 x2 x3 y0 y1 y2 y3 : Value} (h : Four W k x0 x1 x2 x3) (hne : k ≠ j) : Four (set4 W j y0 y1 y2 y3) k x0 x1 x2 x3 := by
  obtain ⟨h0, h1, h2, h3, h4⟩ := h
  unfold Four set4
  simp [go_sem, h0, h1, h2, h3, h4]

theorem Four.new (w : World) (x0 x1 x2 x3 : Value) (t : TypeId) : Four (w.alloc (.cells #[x0, x1, x2, x3] t)) w.heap.size x0 x1 x2 x3 := by
  unfold Four
  simp [go_sem]

theorem Four.alloc {w : World} {k : Nat} {x0 x1 x2 x3 : Value} (h : Four w k x0 x1 x2 x3) (hk : k < w.heap.size) (o : Obj) : Four (w.alloc o) k x0 x1 x2 x3 :=
  h.keep ((Below.refl _ _).alloc (Nat.le_refl _) o) hk

theorem Four.drew {w : World} {k : Nat} {x0 x1 x2 x3 : Value} (h : Four w k x0 x1 x2 x3) : Four w.drew k x0 x1 x2 x3 := h

set_option maxRecDepth 100000 in
theorem int_info : (Tryz.prog.info? 3).map (fun i => (i.zero, i.size, i.bytes)) = some (some (.int .i64 0), 1, 8) := by kernel_rfl

abbrev ints (l : List Int) : List Value := l.map (Value.int .i64)

def Is (w : World) (v : Value) (l : List Int) : Prop :=
  ∃ (A : Option Addr) (cap : Nat), v = .slice A l.length cap ∧ l.length ≤ cap ∧ cap ≤ maxLen ∧
    (0 < l.length → ∃ b off, A = some ⟨b, off, none⟩ ∧ b < w.heap.size ∧ ∀ (j : Nat) (x : Int), l[j]? = some x → w.cell? ⟨b, off + j, none⟩ = some (.int .i64 x))

theorem Is.below {w w' : World} {v : Value} {l : List Int} (h : Is w v l) (hb : Below w.heap.size w w') : Is w' v l := by
  obtain ⟨A, cap, hv, h1, h2, h4⟩ := h
  refine ⟨A, cap, hv, h1, h2, fun hn => ?_⟩
  obtain ⟨b, off, hA, hlt, hc⟩ := h4 hn
  refine ⟨b, off, hA, Nat.lt_of_lt_of_le hlt hb.size, fun j t ht => ?_⟩
  rw [hb.cell (p := ⟨b, off + j, none⟩) hlt]
  exact hc j t ht

theorem is_nil (w : World) : Is w (.slice none 0 0) [] := ⟨none, 0, rfl, Nat.le_refl _, by simp [maxLen], fun h => by simp at h⟩

def OwnI (w : World) (base : Nat) (v : Value) (l : List Int) : Prop := w.ownsRow base 3 1 v l.length (ints l)

theorem ownI_nil (w : World) (base : Nat) : OwnI w base (.slice none 0 0) [] := World.ownsRow_nil w base 3 1

theorem grown_below {W W' : World} (hb : Below W.heap.size W W') : W.grownBy W' none := ⟨hb.os, hb.tape, hb.output, hb.size, fun k hk _ => hb.block k hk⟩

theorem own_weaken {W : World} {base base' : Nat} {e : TypeId} {size : Nat} {v : Value} {n : Nat} {xs : List Value} (h : W.ownsRow base e size v n xs) (hb : base' ≤ base) : W.ownsRow base' e size v n xs := by
  obtain ⟨h1, h2⟩ := h
  refine ⟨h1, ?_⟩
  rcases h2 with h | ⟨g, cap, cur, h3, h4, h5⟩
  · exact .inl h
  · exact .inr ⟨g, cap, cur, h3, Nat.le_trans hb h4, h5⟩

theorem own_below {W W' : World} {base : Nat} {e : TypeId} {size : Nat} {v : Value} {n : Nat} {xs : List Value} (h : W.ownsRow base e size v n xs) (hb : Below W.heap.size W W') : W'.ownsRow base e size v n xs :=
  h.kept (grown_below hb) (by cases v.ownBlock <;> simp)

section
variable {w w' : World} {base : Nat} {v : Value} {l : List Int}

theorem OwnI.is (h : OwnI w base v l) : Is w v l := by
  have hall := h
  obtain ⟨_, hc⟩ := h
  rcases hc with ⟨rfl, h0⟩ | ⟨g, cap, cur, rfl, _, hh, hn, hm, _⟩
  · have : l = [] := List.eq_nil_of_length_eq_zero h0
    subst this
    exact is_nil w
  · refine ⟨_, cap, rfl, hn, hm, fun _ => ⟨g, 0, rfl, (Array.getElem?_eq_some_iff.1 hh).1, fun j p hj => ?_⟩⟩
    have hjl := (List.getElem?_eq_some_iff.1 hj).1
    rw [Nat.zero_add, hall.cellAt j (by omega)]
    simp [ints, hj]

theorem OwnI.below (h : OwnI w base v l) (hb : Below w.heap.size w w') : OwnI w' base v l := own_below h hb

end

theorem below_grown {B : Nat} {w0 w1 w2 : World} {base : Nat} {e : TypeId} {size : Nat} {v : Value} {n : Nat} {xs : List Value} {o : Obj} (hb : Below B w0 w1) (hB : B ≤ w1.heap.size) (hbase : B ≤ base) (hr : w1.ownsRow base e size v n xs) (hg : (w1.alloc o).grownBy w2 v.ownBlock) : Below B w0 w2 :=
  (hb.alloc hB o).grown hg (by simp; omega) (fun k hk => Nat.le_trans hbase (World.ownsRow.lt hr k hk).1)

theorem drop_at {α : Type} {l : List α} {j : Nat} {x : α} (h : l[j]? = some x) : l.drop j = x :: l.drop (j + 1) := by
  obtain ⟨hj, rfl⟩ := List.getElem?_eq_some_iff.1 h
  exact List.drop_eq_getElem_cons hj

set_option maxRecDepth 100000 in
theorem rect_info : (Tryz.prog.info? 53).map (fun i => (i.zero, i.size, i.bytes)) = some (some (.agg #[.int .i64 0, .int .i64 0, .int .i64 0, .int .i64 0]), 4, 32) := by kernel_rfl

def cells4 (r : R) : List Value := [.int .i64 r.x0, .int .i64 r.y0, .int .i64 r.x1, .int .i64 r.y1]

def flat (l : List R) : List Value := l.flatMap cells4

theorem flat_append (l m : List R) : flat (l ++ m) = flat l ++ flat m := List.flatMap_append

theorem flat_length (l : List R) : (flat l).length = l.length * 4 := by
  induction l with
  | nil => rfl
  | cons p l ih => simp only [flat, List.flatMap_cons, List.length_append, List.length_cons] at ih ⊢; rw [ih]; simp [cells4]; omega

theorem flat_at : ∀ (l : List R) (j : Nat) (r : R), l[j]? = some r →
    (flat l)[j * 4]? = some (.int .i64 r.x0) ∧ (flat l)[j * 4 + 1]? = some (.int .i64 r.y0) ∧ (flat l)[j * 4 + 2]? = some (.int .i64 r.x1) ∧ (flat l)[j * 4 + 3]? = some (.int .i64 r.y1)
  | [], j, r, h => by simp at h
  | q :: l, 0, r, h => by
    simp only [List.getElem?_cons_zero, Option.some.injEq] at h
    subst h
    exact ⟨rfl, rfl, rfl, rfl⟩
  | q :: l, j + 1, r, h => by
    rw [List.getElem?_cons_succ] at h
    have ih := flat_at l j r h
    have e : flat (q :: l) = cells4 q ++ flat l := rfl
    have el : (cells4 q).length = 4 := rfl
    rw [e, List.getElem?_append_right (by omega), List.getElem?_append_right (by omega), List.getElem?_append_right (by omega), List.getElem?_append_right (by omega), el, show (j + 1) * 4 - 4 = j * 4 by omega, show (j + 1) * 4 + 1 - 4 = j * 4 + 1 by omega, show (j + 1) * 4 + 2 - 4 = j * 4 + 2 by omega, show (j + 1) * 4 + 3 - 4 = j * 4 + 3 by omega]
    exact ih

def Rs (w : World) (v : Value) (l : List R) : Prop :=
  ∃ (A : Option Addr) (cap : Nat), v = .slice A l.length cap ∧ l.length ≤ cap ∧ cap ≤ maxLen ∧
    (0 < l.length → ∃ b off, A = some ⟨b, off, none⟩ ∧ b < w.heap.size ∧ ∀ (j : Nat) (r : R), l[j]? = some r →
      w.cell? ⟨b, off + j * 4, none⟩ = some (.int .i64 r.x0) ∧ w.cell? ⟨b, off + j * 4 + 1, none⟩ = some (.int .i64 r.y0) ∧ w.cell? ⟨b, off + j * 4 + 2, none⟩ = some (.int .i64 r.x1) ∧ w.cell? ⟨b, off + j * 4 + 3, none⟩ = some (.int .i64 r.y1))

theorem Rs.below {w w' : World} {v : Value} {l : List R} (h : Rs w v l) (hb : Below w.heap.size w w') : Rs w' v l := by
  obtain ⟨A, cap, hv, h1, h2, h4⟩ := h
  refine ⟨A, cap, hv, h1, h2, fun hn => ?_⟩
  obtain ⟨b, off, hA, hlt, hc⟩ := h4 hn
  refine ⟨b, off, hA, Nat.lt_of_lt_of_le hlt hb.size, fun j t ht => ?_⟩
  rw [hb.cell (p := ⟨b, off + j * 4, none⟩) hlt, hb.cell (p := ⟨b, off + j * 4 + 1, none⟩) hlt, hb.cell (p := ⟨b, off + j * 4 + 2, none⟩) hlt, hb.cell (p := ⟨b, off + j * 4 + 3, none⟩) hlt]
  exact hc j t ht

theorem rs_nil (w : World) : Rs w (.slice none 0 0) [] := ⟨none, 0, rfl, Nat.le_refl _, by simp [maxLen], fun h => by simp at h⟩

theorem Rs.shape {w : World} {v : Value} {l : List R} (h : Rs w v l) : ∃ A cap, v = .slice A l.length cap ∧ l.length ≤ cap ∧ cap ≤ maxLen := by
  obtain ⟨A, cap, hv, h1, h2, _⟩ := h
  exact ⟨A, cap, hv, h1, h2⟩

def OwnR (w : World) (base : Nat) (v : Value) (l : List R) : Prop := w.ownsRow base 53 4 v l.length (flat l)

theorem ownR_nil (w : World) (base : Nat) : OwnR w base (.slice none 0 0) [] := World.ownsRow_nil w base 53 4

section

variable {w w' : World} {base : Nat} {v : Value} {l : List R}

theorem OwnR.rs (h : OwnR w base v l) : Rs w v l := by
  have hall := h
  obtain ⟨_, hc⟩ := h
  rcases hc with ⟨rfl, h0⟩ | ⟨g, cap, cur, rfl, _, hh, hn, hm, _⟩
  · have : l = [] := List.eq_nil_of_length_eq_zero h0
    subst this
    exact rs_nil w
  · refine ⟨_, cap, rfl, hn, hm, fun _ => ⟨g, 0, rfl, ?_, fun j p hj => ?_⟩⟩
    · rcases Nat.lt_or_ge g w.heap.size with hl | hl
      · exact hl
      · rw [Array.getElem?_eq_none hl] at hh; cases hh
    · have hjl := (List.getElem?_eq_some_iff.1 hj).1
      obtain ⟨e0, e1, e2, e3⟩ := flat_at l j p hj
      rw [Nat.zero_add, hall.cellAt (j * 4) (by omega), hall.cellAt (j * 4 + 1) (by omega), hall.cellAt (j * 4 + 2) (by omega), hall.cellAt (j * 4 + 3) (by omega)]
      exact ⟨e0, e1, e2, e3⟩

theorem OwnR.block (h : OwnR w base v l) : ∀ k, v.ownBlock = some k → base ≤ k ∧ k < w.heap.size := World.ownsRow.lt h

theorem OwnR.below (h : OwnR w base v l) (hb : Below w.heap.size w w') : OwnR w' base v l :=
  World.ownsRow.kept (row := none) h ⟨hb.os, hb.tape, hb.output, hb.size, fun k hk _ => hb.block k hk⟩ (by cases v.ownBlock <;> simp)

end

theorem add_at (b off j : Nat) : (⟨b, off, none⟩ : Addr).add j = ⟨b, off + j, none⟩ := by unfold Addr.add; split <;> simp_all

theorem oneCell_flat (l : List R) : ∀ u ∈ flat l, u.oneCell' = true := by
  intro u hu
  obtain ⟨p, hp, hc⟩ := List.mem_flatMap.1 hu
  simp only [cells4, List.mem_cons, List.not_mem_nil, or_false] at hc
  rcases hc with rfl | rfl | rfl | rfl <;> rfl

theorem flat_cells {w : World} {b off : Nat} {l : List R} (h : ∀ (j : Nat) (r : R), l[j]? = some r →
      w.cell? ⟨b, off + j * 4, none⟩ = some (.int .i64 r.x0) ∧ w.cell? ⟨b, off + j * 4 + 1, none⟩ = some (.int .i64 r.y0) ∧ w.cell? ⟨b, off + j * 4 + 2, none⟩ = some (.int .i64 r.x1) ∧ w.cell? ⟨b, off + j * 4 + 3, none⟩ = some (.int .i64 r.y1)) :
    ∀ j u, (flat l)[j]? = some u → w.cell? ((⟨b, off, none⟩ : Addr).add j) = some u := by
  intro j u hu
  have hj : j < l.length * 4 := by
    have := (List.getElem?_eq_some_iff.1 hu).1
    rwa [flat_length] at this
  obtain ⟨p, hp⟩ : ∃ p, l[j / 4]? = some p := ⟨_, List.getElem?_eq_getElem (by omega)⟩
  obtain ⟨e0, e1, e2, e3⟩ := flat_at l _ p hp
  obtain ⟨c0, c1, c2, c3⟩ := h _ p hp
  rw [add_at]
  rcases (by omega : j = j / 4 * 4 ∨ j = j / 4 * 4 + 1 ∨ j = j / 4 * 4 + 2 ∨ j = j / 4 * 4 + 3) with hh | hh | hh | hh
  · rw [hh, e0] at hu; rw [hh, c0, hu]
  · rw [hh, e1] at hu; rw [hh, ← Nat.add_assoc, c1, hu]
  · rw [hh, e2] at hu; rw [hh, ← Nat.add_assoc, c2, hu]
  · rw [hh, e3] at hu; rw [hh, ← Nat.add_assoc, c3, hu]

set_option maxRecDepth 100000 in
theorem edge_info : (Tryz.prog.info? 129).map (fun i => (i.zero, i.size, i.bytes)) = some (some (.agg #[.int .i64 0, .int .i64 0, .int .i64 0]), 3, 24) := by kernel_rfl

def cells3 (e : E) : List Value := [.int .i64 e.x, .int .i64 e.a, .int .i64 e.b]
def flatE (l : List E) : List Value := l.flatMap cells3

theorem flatE_append (l m : List E) : flatE (l ++ m) = flatE l ++ flatE m := List.flatMap_append

theorem flatE_length (l : List E) : (flatE l).length = l.length * 3 := by
  induction l with
  | nil => rfl
  | cons p l ih => simp only [flatE, List.flatMap_cons, List.length_append, List.length_cons] at ih ⊢; rw [ih]; simp [cells3]; omega

theorem flatE_at : ∀ (l : List E) (j : Nat) (r : E), l[j]? = some r →
    (flatE l)[j * 3]? = some (.int .i64 r.x) ∧ (flatE l)[j * 3 + 1]? = some (.int .i64 r.a) ∧ (flatE l)[j * 3 + 2]? = some (.int .i64 r.b)
  | [], j, r, h => by simp at h
  | q :: l, 0, r, h => by
    simp only [List.getElem?_cons_zero, Option.some.injEq] at h
    subst h
    exact ⟨rfl, rfl, rfl⟩
  | q :: l, j + 1, r, h => by
    rw [List.getElem?_cons_succ] at h
    have ih := flatE_at l j r h
    have e : flatE (q :: l) = cells3 q ++ flatE l := rfl
    have el : (cells3 q).length = 3 := rfl
    rw [e, List.getElem?_append_right (by omega), List.getElem?_append_right (by omega), List.getElem?_append_right (by omega), el, show (j + 1) * 3 - 3 = j * 3 by omega, show (j + 1) * 3 + 1 - 3 = j * 3 + 1 by omega, show (j + 1) * 3 + 2 - 3 = j * 3 + 2 by omega]
    exact ih

def Es (w : World) (v : Value) (l : List E) : Prop :=
  ∃ (A : Option Addr) (cap : Nat), v = .slice A l.length cap ∧ l.length ≤ cap ∧ cap ≤ maxLen ∧
    (0 < l.length → ∃ b off, A = some ⟨b, off, none⟩ ∧ b < w.heap.size ∧ ∀ (j : Nat) (r : E), l[j]? = some r →
      w.cell? ⟨b, off + j * 3, none⟩ = some (.int .i64 r.x) ∧ w.cell? ⟨b, off + j * 3 + 1, none⟩ = some (.int .i64 r.a) ∧ w.cell? ⟨b, off + j * 3 + 2, none⟩ = some (.int .i64 r.b))

theorem Es.below {w w' : World} {v : Value} {l : List E} (h : Es w v l) (hb : Below w.heap.size w w') : Es w' v l := by
  obtain ⟨A, cap, hv, h1, h2, h4⟩ := h
  refine ⟨A, cap, hv, h1, h2, fun hn => ?_⟩
  obtain ⟨b, off, hA, hlt, hc⟩ := h4 hn
  refine ⟨b, off, hA, Nat.lt_of_lt_of_le hlt hb.size, fun j t ht => ?_⟩
  rw [hb.cell (p := ⟨b, off + j * 3, none⟩) hlt, hb.cell (p := ⟨b, off + j * 3 + 1, none⟩) hlt, hb.cell (p := ⟨b, off + j * 3 + 2, none⟩) hlt]
  exact hc j t ht

theorem es_nil (w : World) : Es w (.slice none 0 0) [] := ⟨none, 0, rfl, Nat.le_refl _, by simp [maxLen], fun h => by simp at h⟩

def OwnE (w : World) (base : Nat) (v : Value) (l : List E) : Prop := w.ownsRow base 129 3 v l.length (flatE l)

theorem ownE_nil (w : World) (base : Nat) : OwnE w base (.slice none 0 0) [] := World.ownsRow_nil w base 129 3

theorem OwnE.es {w : World} {base : Nat} {v : Value} {l : List E} (h : OwnE w base v l) : Es w v l := by
  have hall := h
  obtain ⟨_, hc⟩ := h
  rcases hc with ⟨rfl, h0⟩ | ⟨g, cap, cur, rfl, _, hh, hn, hm, _⟩
  · have : l = [] := List.eq_nil_of_length_eq_zero h0
    subst this
    exact es_nil w
  · refine ⟨_, cap, rfl, hn, hm, fun _ => ⟨g, 0, rfl, (Array.getElem?_eq_some_iff.1 hh).1, fun j p hj => ?_⟩⟩
    have hjl := (List.getElem?_eq_some_iff.1 hj).1
    obtain ⟨e0, e1, e2⟩ := flatE_at l j p hj
    rw [Nat.zero_add, hall.cellAt (j * 3) (by omega), hall.cellAt (j * 3 + 1) (by omega), hall.cellAt (j * 3 + 2) (by omega)]
    exact ⟨e0, e1, e2⟩

theorem oneCell_flatE (l : List E) : ∀ u ∈ flatE l, u.oneCell' = true := by
  intro u hu
  obtain ⟨p, hp, hc⟩ := List.mem_flatMap.1 hu
  simp only [cells3, List.mem_cons, List.not_mem_nil, or_false] at hc
  rcases hc with rfl | rfl | rfl <;> rfl

theorem flatE_cells {w : World} {b off : Nat} {l : List E} (h : ∀ (j : Nat) (r : E), l[j]? = some r →
      w.cell? ⟨b, off + j * 3, none⟩ = some (.int .i64 r.x) ∧ w.cell? ⟨b, off + j * 3 + 1, none⟩ = some (.int .i64 r.a) ∧ w.cell? ⟨b, off + j * 3 + 2, none⟩ = some (.int .i64 r.b)) :
    ∀ j u, (flatE l)[j]? = some u → w.cell? ((⟨b, off, none⟩ : Addr).add j) = some u := by
  intro j u hu
  have hj : j < l.length * 3 := by
    have := (List.getElem?_eq_some_iff.1 hu).1
    rwa [flatE_length] at this
  obtain ⟨p, hp⟩ : ∃ p, l[j / 3]? = some p := ⟨_, List.getElem?_eq_getElem (by omega)⟩
  obtain ⟨e0, e1, e2⟩ := flatE_at l _ p hp
  obtain ⟨c0, c1, c2⟩ := h _ p hp
  rw [add_at]
  rcases (by omega : j = j / 3 * 3 ∨ j = j / 3 * 3 + 1 ∨ j = j / 3 * 3 + 2) with hh | hh | hh
  · rw [hh, e0] at hu; rw [hh, c0, hu]
  · rw [hh, e1] at hu; rw [hh, ← Nat.add_assoc, c1, hu]
  · rw [hh, e2] at hu; rw [hh, ← Nat.add_assoc, c2, hu]

theorem oneCell_ints (l : List Int) : ∀ u ∈ ints l, u.oneCell' = true := by
  intro u hu
  obtain ⟨p, _, rfl⟩ := List.mem_map.1 hu
  rfl

theorem ints_cells {w : World} {b off : Nat} {l : List Int} (h : ∀ (j : Nat) (x : Int), l[j]? = some x → w.cell? ⟨b, off + j, none⟩ = some (.int .i64 x)) :
    ∀ j u, (ints l)[j]? = some u → w.cell? ((⟨b, off, none⟩ : Addr).add j) = some u := by
  intro j u hu
  rw [add_at]
  simp only [ints, List.getElem?_map, Option.map_eq_some_iff] at hu
  obtain ⟨x, hx, rfl⟩ := hu
  exact h j x hx

theorem ints_append (l m : List Int) : ints (l ++ m) = ints l ++ ints m := List.map_append
theorem ints_length (l : List Int) : (ints l).length = l.length * 1 := by simp [ints]

def Apart (u v : Value) : Prop := u.ownBlock = none ∨ u.ownBlock ≠ v.ownBlock

theorem Apart.symm {u v : Value} (h : Apart u v) : Apart v u := by
  unfold Apart at *
  cases hv : v.ownBlock with
  | none => exact .inl rfl
  | some g =>
    rcases h with h | h
    · exact .inr (by rw [h]; simp)
    · exact .inr (fun e => h (by rw [hv, ← e]))

theorem apart_nil (v : Value) : Apart (.slice none 0 0) v := .inl rfl

theorem own_else0 {w w1 : World} {base' : Nat} {e' : TypeId} {size' : Nat} {u v v' : Value} {n' : Nat} {ys : List Value} (hu : w.ownsRow base' e' size' u n' ys) (hg : w.grownBy w1 v.ownBlock) (ha : Apart u v) (hl : v'.ownBlock = v.ownBlock ∨ v'.ownBlock = some w.heap.size) :
    w1.ownsRow base' e' size' u n' ys ∧ Apart u v' := by
  refine ⟨hu.kept hg ha, ?_⟩
  rcases hl with h | h
  · unfold Apart; rw [h]; exact ha
  · cases hb : u.ownBlock with
    | none => exact .inl hb
    | some g =>
      refine .inr (fun e => ?_)
      rw [hb, h] at e
      have := (World.ownsRow.lt hu g hb).2
      cases e
      omega

theorem below_grown0 {B : Nat} {w0 w1 w2 : World} {base : Nat} {e : TypeId} {size : Nat} {v : Value} {n : Nat} {xs : List Value} (hb : Below B w0 w1) (hB : B ≤ w1.heap.size) (hbase : B ≤ base) (hr : w1.ownsRow base e size v n xs) (hg : w1.grownBy w2 v.ownBlock) : Below B w0 w2 :=
  hb.grown hg hB (fun k hk => Nat.le_trans hbase (World.ownsRow.lt hr k hk).1)

theorem append_nil_run {P : Program} {w : World} {base : Nat} {t ty e : TypeId} {i : TypeInfo} {size : Nat} (ht : P.underlying t = some (.slice e)) (hi : P.info? e = some i)
    {v : Value} {n : Nat} {xs : List Value} (hown : w.ownsRow base e size v n xs) (c : Nat) : (Builtin.append_ #[t, t] ty #[v, .slice none 0 c]).run P w = .ok v w := by
  rcases hown.2 with ⟨rfl, rfl⟩ | ⟨g, cap, cur, rfl, _, _, hnc, _⟩
  · simp [Builtin.append_, run_underlying ht, sizeOf, typeInfo, hi, Builtin.lenOf, Builtin.firstCells]
  · simp [Builtin.append_, run_underlying ht, sizeOf, typeInfo, hi, Builtin.lenOf, Builtin.firstCells, hnc, storeCells]

set_option maxRecDepth 100000 in
theorem appendI_run {w : World} {base : Nat} {v : Value} {l m : List Int} (hown : OwnI w base v l) {A : Option Addr} {k c : Nat} (hsee : Is w (.slice A k c) m) (hb : l.length + m.length ≤ 4000000) (hbase : base ≤ w.heap.size) (ty : TypeId) :
    ∃ v' w', (Builtin.append_ #[94, 94] ty #[v, .slice A k c]).run Tryz.prog w = .ok v' w' ∧ OwnI w' base v' (l ++ m) ∧ w.grownBy w' v.ownBlock ∧ (v'.ownBlock = v.ownBlock ∨ v'.ownBlock = some w.heap.size) ∧ (v' = .slice none 0 0 ↔ v = .slice none 0 0 ∧ m.length = 0) := by
  obtain ⟨i, hi, hz, hsz, hby⟩ := info_parts int_info
  obtain ⟨A', c', hv, hc1, hc2, hcells⟩ := hsee
  injection hv with e1 e2 e3
  subst e1 e2 e3
  by_cases h0 : m.length = 0
  · have : m = [] := List.eq_nil_of_length_eq_zero h0
    subst this
    cases A with
    | none =>
      have hn := append_nil_run (ty := ty) Tryz.underlying94 hi hown c
      exact ⟨v, w, hn, by rw [List.append_nil]; exact hown, World.grownBy.refl w _, .inl rfl, by simp⟩
    | some a =>
      obtain ⟨v', w', hrun, h2, h3, h4, h5⟩ := run_append_own_at (P := Tryz.prog) w base 94 ty 3 i _ 1 8 Tryz.underlying94 hi hz hsz hby rfl (by decide) v l.length (ints l) hown a 0 c [] rfl (by simp) (by simp) (by simp only [maxLen]; simp at hb; omega) (by simp at hb ⊢; omega) hbase
      exact ⟨v', w', hrun, by unfold OwnI; simpa using h2, h3, h5, by simpa using h4⟩
  · obtain ⟨b, off, rfl, _, hc⟩ := hcells (by omega)
    obtain ⟨v', w', hrun, h2, h3, h4, h5⟩ := run_append_own_at (P := Tryz.prog) w base 94 ty 3 i _ 1 8 Tryz.underlying94 hi hz hsz hby rfl (by decide) v l.length (ints l) hown ⟨b, off, none⟩ m.length c (ints m) (ints_length m) (ints_cells hc) (oneCell_ints m) (by simp only [maxLen]; omega) (by omega) hbase
    exact ⟨v', w', hrun, by unfold OwnI; rw [ints_append, List.length_append]; exact h2, h3, h5, h4⟩

set_option maxRecDepth 100000 in
theorem wpList_appI {w : World} {ops : Array Oper} {rest : List Oper} {o : Oper} {a : Act} {Q : Exit → Act → World → Prop} (hgd : o.guard = none) (s x : Operand)
    (ho : o.op = .call { callee := .builtin .append, args := #[s, x], argTypes := #[94, 94] })
    {base : Nat} {v : Value} {l m : List Int} (hs : a.eval s = v) (hown : OwnI w base v l) {A : Option Addr} {k c : Nat} (hx : a.eval x = .slice A k c) (hsee : Is w (.slice A k c) m)
    (hb : l.length + m.length ≤ 4000000) (hbase : base ≤ w.heap.size)
    (h : ∀ v' w', OwnI w' base v' (l ++ m) → w.grownBy w' v.ownBlock → (v'.ownBlock = v.ownBlock ∨ v'.ownBlock = some w.heap.size) → (v' = .slice none 0 0 ↔ v = .slice none 0 0 ∧ m.length = 0) → wpList Tryz.prog ops Q rest (a.put o.dst v') w') : wpList Tryz.prog ops Q (o :: rest) a w := by
  refine wpList_plain hgd fun K hK => ?_
  obtain ⟨v', w', hrun, h2, h3, h4, h5⟩ := appendI_run hown hsee hb hbase o.type
  unfold Oper.wp execOp
  simp only [ho, resolve, invoke, builtin, Sem.run_bind, Sem.run_pure, Result.andThen_ok, List.map_toArray, List.map_cons, List.map_nil, hs, hx, hrun]
  exact hK _ _ (h v' w' h2 h3 h4 h5)

set_option maxRecDepth 100000 in
theorem step_appI {w : World} {ops : Array Oper} {o : Oper} {a : Act} {K : Act → World → Prop} {Q : Exit → Act → World → Prop} {D : Prop} (hgd : o.guard = none) (s x : Operand)
    (ho : o.op = .call { callee := .builtin .append, args := #[s, x], argTypes := #[94, 94] })
    {base : Nat} {v : Value} {l m : List Int} (hs : a.eval s = v) (hown : OwnI w base v l) {A : Option Addr} {k c : Nat} (hx : a.eval x = .slice A k c) (hsee : Is w (.slice A k c) m)
    (hb : l.length + m.length ≤ 4000000) (hbase : base ≤ w.heap.size)
    (h : ∀ v' w', OwnI w' base v' (l ++ m) → w.grownBy w' v.ownBlock → (v'.ownBlock = v.ownBlock ∨ v'.ownBlock = some w.heap.size) → (v' = .slice none 0 0 ↔ v = .slice none 0 0 ∧ m.length = 0) → K (a.put o.dst v') w') :
    if Region.wanted o (yielded ops a.tmps) = true then Oper.wp Tryz.prog o a w K Q else D := by
  have hw : Region.wanted o (yielded ops a.tmps) = true := by simp [Region.wanted, hgd]
  rw [if_pos hw]
  obtain ⟨v', w', hrun, h2, h3, h4, h5⟩ := appendI_run hown hsee hb hbase o.type
  unfold Oper.wp execOp
  simp only [ho, resolve, invoke, builtin, Sem.run_bind, Sem.run_pure, Result.andThen_ok, List.map_toArray, List.map_cons, List.map_nil, hs, hx, hrun]
  exact h v' w' h2 h3 h4 h5

set_option maxRecDepth 100000 in
theorem appendR_run {w : World} {base : Nat} {v : Value} {l m : List R} (hown : OwnR w base v l) {A : Option Addr} {k c : Nat} (hsee : Rs w (.slice A k c) m) (hb : l.length + m.length ≤ 4000000) (hbase : base ≤ w.heap.size) (ty : TypeId) :
    ∃ v' w', (Builtin.append_ #[23, 23] ty #[v, .slice A k c]).run Tryz.prog w = .ok v' w' ∧ OwnR w' base v' (l ++ m) ∧ w.grownBy w' v.ownBlock ∧ (v'.ownBlock = v.ownBlock ∨ v'.ownBlock = some w.heap.size) ∧ (v' = .slice none 0 0 ↔ v = .slice none 0 0 ∧ m.length = 0) := by
  obtain ⟨i, hi, hz, hsz, hby⟩ := info_parts rect_info
  obtain ⟨A', c', hv, hc1, hc2, hcells⟩ := hsee
  injection hv with e1 e2 e3
  subst e1 e2 e3
  by_cases h0 : m.length = 0
  · have : m = [] := List.eq_nil_of_length_eq_zero h0
    subst this
    cases A with
    | none =>
      have hn := append_nil_run (ty := ty) Tryz.underlying23 hi hown c
      exact ⟨v, w, hn, by rw [List.append_nil]; exact hown, World.grownBy.refl w _, .inl rfl, by simp⟩
    | some a =>
      obtain ⟨v', w', hrun, h2, h3, h4, h5⟩ := run_append_own_at (P := Tryz.prog) w base 23 ty 53 i _ 4 32 Tryz.underlying23 hi hz hsz hby rfl (by decide) v l.length (flat l) hown a 0 c [] rfl (by simp) (by simp) (by simp only [maxLen]; simp at hb; omega) (by simp at hb ⊢; omega) hbase
      exact ⟨v', w', hrun, by unfold OwnR; simpa using h2, h3, h5, by simpa using h4⟩
  · obtain ⟨b, off, rfl, _, hc⟩ := hcells (by omega)
    obtain ⟨v', w', hrun, h2, h3, h4, h5⟩ := run_append_own_at (P := Tryz.prog) w base 23 ty 53 i _ 4 32 Tryz.underlying23 hi hz hsz hby rfl (by decide) v l.length (flat l) hown ⟨b, off, none⟩ m.length c (flat m) (flat_length m) (flat_cells hc) (oneCell_flat m) (by simp only [maxLen]; omega) (by omega) hbase
    exact ⟨v', w', hrun, by unfold OwnR; rw [flat_append, List.length_append]; exact h2, h3, h5, h4⟩

set_option maxRecDepth 100000 in
theorem wpList_appR {w : World} {ops : Array Oper} {rest : List Oper} {o : Oper} {a : Act} {Q : Exit → Act → World → Prop} (hgd : o.guard = none) (s x : Operand)
    (ho : o.op = .call { callee := .builtin .append, args := #[s, x], argTypes := #[23, 23] })
    {base : Nat} {v : Value} {l m : List R} (hs : a.eval s = v) (hown : OwnR w base v l) {A : Option Addr} {k c : Nat} (hx : a.eval x = .slice A k c) (hsee : Rs w (.slice A k c) m)
    (hb : l.length + m.length ≤ 4000000) (hbase : base ≤ w.heap.size)
    (h : ∀ v' w', OwnR w' base v' (l ++ m) → w.grownBy w' v.ownBlock → (v'.ownBlock = v.ownBlock ∨ v'.ownBlock = some w.heap.size) → (v' = .slice none 0 0 ↔ v = .slice none 0 0 ∧ m.length = 0) → wpList Tryz.prog ops Q rest (a.put o.dst v') w') : wpList Tryz.prog ops Q (o :: rest) a w := by
  refine wpList_plain hgd fun K hK => ?_
  obtain ⟨v', w', hrun, h2, h3, h4, h5⟩ := appendR_run hown hsee hb hbase o.type
  unfold Oper.wp execOp
  simp only [ho, resolve, invoke, builtin, Sem.run_bind, Sem.run_pure, Result.andThen_ok, List.map_toArray, List.map_cons, List.map_nil, hs, hx, hrun]
  exact hK _ _ (h v' w' h2 h3 h4 h5)

set_option maxRecDepth 100000 in
theorem step_appR {w : World} {ops : Array Oper} {o : Oper} {a : Act} {K : Act → World → Prop} {Q : Exit → Act → World → Prop} {D : Prop} (hgd : o.guard = none) (s x : Operand)
    (ho : o.op = .call { callee := .builtin .append, args := #[s, x], argTypes := #[23, 23] })
    {base : Nat} {v : Value} {l m : List R} (hs : a.eval s = v) (hown : OwnR w base v l) {A : Option Addr} {k c : Nat} (hx : a.eval x = .slice A k c) (hsee : Rs w (.slice A k c) m)
    (hb : l.length + m.length ≤ 4000000) (hbase : base ≤ w.heap.size)
    (h : ∀ v' w', OwnR w' base v' (l ++ m) → w.grownBy w' v.ownBlock → (v'.ownBlock = v.ownBlock ∨ v'.ownBlock = some w.heap.size) → (v' = .slice none 0 0 ↔ v = .slice none 0 0 ∧ m.length = 0) → K (a.put o.dst v') w') :
    if Region.wanted o (yielded ops a.tmps) = true then Oper.wp Tryz.prog o a w K Q else D := by
  have hw : Region.wanted o (yielded ops a.tmps) = true := by simp [Region.wanted, hgd]
  rw [if_pos hw]
  obtain ⟨v', w', hrun, h2, h3, h4, h5⟩ := appendR_run hown hsee hb hbase o.type
  unfold Oper.wp execOp
  simp only [ho, resolve, invoke, builtin, Sem.run_bind, Sem.run_pure, Result.andThen_ok, List.map_toArray, List.map_cons, List.map_nil, hs, hx, hrun]
  exact h v' w' h2 h3 h4 h5

set_option maxRecDepth 100000 in
theorem appendE_run {w : World} {base : Nat} {v : Value} {l m : List E} (hown : OwnE w base v l) {A : Option Addr} {k c : Nat} (hsee : Es w (.slice A k c) m) (hb : l.length + m.length ≤ 4000000) (hbase : base ≤ w.heap.size) (ty : TypeId) :
    ∃ v' w', (Builtin.append_ #[116, 116] ty #[v, .slice A k c]).run Tryz.prog w = .ok v' w' ∧ OwnE w' base v' (l ++ m) ∧ w.grownBy w' v.ownBlock ∧ (v'.ownBlock = v.ownBlock ∨ v'.ownBlock = some w.heap.size) ∧ (v' = .slice none 0 0 ↔ v = .slice none 0 0 ∧ m.length = 0) := by
  obtain ⟨i, hi, hz, hsz, hby⟩ := info_parts edge_info
  obtain ⟨A', c', hv, hc1, hc2, hcells⟩ := hsee
  injection hv with e1 e2 e3
  subst e1 e2 e3
  by_cases h0 : m.length = 0
  · have : m = [] := List.eq_nil_of_length_eq_zero h0
    subst this
    cases A with
    | none =>
      have hn := append_nil_run (ty := ty) Tryz.underlying116 hi hown c
      exact ⟨v, w, hn, by rw [List.append_nil]; exact hown, World.grownBy.refl w _, .inl rfl, by simp⟩
    | some a =>
      obtain ⟨v', w', hrun, h2, h3, h4, h5⟩ := run_append_own_at (P := Tryz.prog) w base 116 ty 129 i _ 3 24 Tryz.underlying116 hi hz hsz hby rfl (by decide) v l.length (flatE l) hown a 0 c [] rfl (by simp) (by simp) (by simp only [maxLen]; simp at hb; omega) (by simp at hb ⊢; omega) hbase
      exact ⟨v', w', hrun, by unfold OwnE; simpa using h2, h3, h5, by simpa using h4⟩
  · obtain ⟨b, off, rfl, _, hc⟩ := hcells (by omega)
    obtain ⟨v', w', hrun, h2, h3, h4, h5⟩ := run_append_own_at (P := Tryz.prog) w base 116 ty 129 i _ 3 24 Tryz.underlying116 hi hz hsz hby rfl (by decide) v l.length (flatE l) hown ⟨b, off, none⟩ m.length c (flatE m) (flatE_length m) (flatE_cells hc) (oneCell_flatE m) (by simp only [maxLen]; omega) (by omega) hbase
    exact ⟨v', w', hrun, by unfold OwnE; rw [flatE_append, List.length_append]; exact h2, h3, h5, h4⟩

set_option maxRecDepth 100000 in
theorem wpList_appE {w : World} {ops : Array Oper} {rest : List Oper} {o : Oper} {a : Act} {Q : Exit → Act → World → Prop} (hgd : o.guard = none) (s x : Operand)
    (ho : o.op = .call { callee := .builtin .append, args := #[s, x], argTypes := #[116, 116] })
    {base : Nat} {v : Value} {l m : List E} (hs : a.eval s = v) (hown : OwnE w base v l) {A : Option Addr} {k c : Nat} (hx : a.eval x = .slice A k c) (hsee : Es w (.slice A k c) m)
    (hb : l.length + m.length ≤ 4000000) (hbase : base ≤ w.heap.size)
    (h : ∀ v' w', OwnE w' base v' (l ++ m) → w.grownBy w' v.ownBlock → (v'.ownBlock = v.ownBlock ∨ v'.ownBlock = some w.heap.size) → (v' = .slice none 0 0 ↔ v = .slice none 0 0 ∧ m.length = 0) → wpList Tryz.prog ops Q rest (a.put o.dst v') w') : wpList Tryz.prog ops Q (o :: rest) a w := by
  refine wpList_plain hgd fun K hK => ?_
  obtain ⟨v', w', hrun, h2, h3, h4, h5⟩ := appendE_run hown hsee hb hbase o.type
  unfold Oper.wp execOp
  simp only [ho, resolve, invoke, builtin, Sem.run_bind, Sem.run_pure, Result.andThen_ok, List.map_toArray, List.map_cons, List.map_nil, hs, hx, hrun]
  exact hK _ _ (h v' w' h2 h3 h4 h5)

set_option maxRecDepth 100000 in
theorem step_appE {w : World} {ops : Array Oper} {o : Oper} {a : Act} {K : Act → World → Prop} {Q : Exit → Act → World → Prop} {D : Prop} (hgd : o.guard = none) (s x : Operand)
    (ho : o.op = .call { callee := .builtin .append, args := #[s, x], argTypes := #[116, 116] })
    {base : Nat} {v : Value} {l m : List E} (hs : a.eval s = v) (hown : OwnE w base v l) {A : Option Addr} {k c : Nat} (hx : a.eval x = .slice A k c) (hsee : Es w (.slice A k c) m)
    (hb : l.length + m.length ≤ 4000000) (hbase : base ≤ w.heap.size)
    (h : ∀ v' w', OwnE w' base v' (l ++ m) → w.grownBy w' v.ownBlock → (v'.ownBlock = v.ownBlock ∨ v'.ownBlock = some w.heap.size) → (v' = .slice none 0 0 ↔ v = .slice none 0 0 ∧ m.length = 0) → K (a.put o.dst v') w') :
    if Region.wanted o (yielded ops a.tmps) = true then Oper.wp Tryz.prog o a w K Q else D := by
  have hw : Region.wanted o (yielded ops a.tmps) = true := by simp [Region.wanted, hgd]
  rw [if_pos hw]
  obtain ⟨v', w', hrun, h2, h3, h4, h5⟩ := appendE_run hown hsee hb hbase o.type
  unfold Oper.wp execOp
  simp only [ho, resolve, invoke, builtin, Sem.run_bind, Sem.run_pure, Result.andThen_ok, List.map_toArray, List.map_cons, List.map_nil, hs, hx, hrun]
  exact h v' w' h2 h3 h4 h5

theorem is_two (w : World) (x y : Int) : Is (w.alloc (.cells #[.int .i64 x, .int .i64 y] 3)) (.slice (some ⟨w.heap.size, 0, none⟩) 2 2) [x, y] := by
  refine ⟨_, 2, rfl, Nat.le_refl _, by simp [maxLen], fun _ => ⟨w.heap.size, 0, rfl, by simp, fun j q hj => ?_⟩⟩
  match j, hj with
  | 0, hj => simp only [List.getElem?_cons_zero, Option.some.injEq] at hj; subst hj; rw [World.cell?_alloc_at _ _ _ _ rfl]; rfl
  | 1, hj => simp only [List.getElem?_cons_zero, List.getElem?_cons_succ, Option.some.injEq] at hj; subst hj; rw [World.cell?_alloc_at _ _ _ _ rfl]; rfl

theorem rs_one (w : World) (r : R) : Rs (w.alloc (.cells #[.int .i64 r.x0, .int .i64 r.y0, .int .i64 r.x1, .int .i64 r.y1] 53)) (.slice (some ⟨w.heap.size, 0, none⟩) 1 1) [r] := by
  refine ⟨_, 1, rfl, Nat.le_refl _, by simp [maxLen], fun _ => ⟨w.heap.size, 0, rfl, by simp, fun j q hj => ?_⟩⟩
  match j, hj with
  | 0, hj =>
    simp only [List.getElem?_cons_zero, Option.some.injEq] at hj
    subst hj
    refine ⟨?_, ?_, ?_, ?_⟩ <;> (rw [World.cell?_alloc_at _ _ _ _ rfl]; rfl)

theorem es_one (w : World) (e : E) : Es (w.alloc (.cells #[.int .i64 e.x, .int .i64 e.a, .int .i64 e.b] 129)) (.slice (some ⟨w.heap.size, 0, none⟩) 1 1) [e] := by
  refine ⟨_, 1, rfl, Nat.le_refl _, by simp [maxLen], fun _ => ⟨w.heap.size, 0, rfl, by simp, fun j q hj => ?_⟩⟩
  match j, hj with
  | 0, hj =>
    simp only [List.getElem?_cons_zero, Option.some.injEq] at hj
    subst hj
    refine ⟨?_, ?_, ?_⟩ <;> (rw [World.cell?_alloc_at _ _ _ _ rfl]; rfl)

theorem es_two (w : World) (e f : E) : Es (w.alloc (.cells #[.int .i64 e.x, .int .i64 e.a, .int .i64 e.b, .int .i64 f.x, .int .i64 f.a, .int .i64 f.b] 129)) (.slice (some ⟨w.heap.size, 0, none⟩) 2 2) [e, f] := by
  refine ⟨_, 2, rfl, Nat.le_refl _, by simp [maxLen], fun _ => ⟨w.heap.size, 0, rfl, by simp, fun j q hj => ?_⟩⟩
  match j, hj with
  | 0, hj => simp only [List.getElem?_cons_zero, Option.some.injEq] at hj; subst hj; refine ⟨?_, ?_, ?_⟩ <;> (rw [World.cell?_alloc_at _ _ _ _ rfl]; rfl)
  | 1, hj => simp only [List.getElem?_cons_zero, List.getElem?_cons_succ, Option.some.injEq] at hj; subst hj; refine ⟨?_, ?_, ?_⟩ <;> (rw [World.cell?_alloc_at _ _ _ _ rfl]; rfl)

end Go.Proofs.YthedglfocjljjaaGreatDoor.Rgn
