/-
  What the sweep keeps from row to row: the edges at a row, how many there are, the strips that are still to come.
-/
import Derived.Test.YtclnepijbnhdfaaRcom
import Derived.Test.YtclnepijbnhdfaaMape
namespace Go.Proofs.Ytclnepijbnhdfaa
open Go.RowKit

def sumN (f : Int → Nat) : List Int → Nat
  | [] => 0
  | y :: ys => f y + sumN f ys

theorem sumN_add (f g : Int → Nat) : ∀ ys, sumN (fun y => f y + g y) ys = sumN f ys + sumN g ys
  | [] => rfl
  | y :: ys => by simp only [sumN, sumN_add f g ys]; omega
theorem sumN_le {f g : Int → Nat} (h : ∀ y, f y ≤ g y) : ∀ ys, sumN f ys ≤ sumN g ys
  | [] => Nat.le_refl _
  | y :: ys => by have := h y; have := sumN_le h ys; simp only [sumN]; omega
theorem sumN_congr {f g : Int → Nat} (h : ∀ y, f y = g y) (ys : List Int) : sumN f ys = sumN g ys := by
  have e : f = g := funext h
  rw [e]
theorem sumN_zero : ∀ ys, sumN (fun _ => 0) ys = 0
  | [] => rfl
  | _ :: ys => by simp only [sumN, sumN_zero ys]
theorem sumN_append (f : Int → Nat) : ∀ l m, sumN f (l ++ m) = sumN f l + sumN f m
  | [], m => by simp [sumN]
  | y :: l, m => by simp only [List.cons_append, sumN, sumN_append f l m]; omega
theorem sumN_one (p : Int) : ∀ {ys : List Int}, ys.Nodup → sumN (fun y => if p = y then 2 else 0) ys ≤ 2
  | [], _ => by simp [sumN]
  | y :: ys, h => by
    obtain ⟨h1, h2⟩ := List.nodup_cons.1 h
    have ih := sumN_one p h2
    simp only [sumN]
    by_cases e : p = y
    · have : sumN (fun y => if p = y then 2 else 0) ys = 0 := by
        have : ∀ zs : List Int, p ∉ zs → sumN (fun y => if p = y then 2 else 0) zs = 0 := by
          intro zs
          induction zs with
          | nil => intro _; rfl
          | cons z zs ih =>
            intro hz
            simp only [sumN]
            rw [if_neg (fun e => hz (by simp [e])), ih (fun h => hz (by simp [h]))]
        exact this ys (by rw [e]; exact h1)
      rw [this, if_pos e]
      omega
    · rw [if_neg e]
      omega

theorem chgR_wt' {sa sb : Int} (h : sa.natAbs + sb.natAbs = 1) (y : Int) (r : R) : wt (chgR sa sb y r) ≤ (if r.y0 = y then 2 else 0) + (if r.y1 = y then 2 else 0) := by
  unfold chgR
  split
  · simp [wt]
  · split
    · simp only [wt, Int.natAbs_neg]; omega
    · split
      · simp only [wt, Int.natAbs_neg]; omega
      · simp [wt]

theorem chgL_sum {sa sb : Int} (h : sa.natAbs + sb.natAbs = 1) {ys : List Int} (hn : ys.Nodup) : ∀ l : List R, sumN (fun y => wt (chgL sa sb l y)) ys ≤ 4 * l.length
  | [] => by
    have e : sumN (fun y => wt (chgL sa sb [] y)) ys = 0 := (sumN_congr (g := fun _ => 0) (fun y => rfl) ys).trans (sumN_zero ys)
    omega
  | r :: l => by
    have ih := chgL_sum h hn l
    have e : ∀ y, wt (chgL sa sb (r :: l) y) = wt (chgR sa sb y r) + wt (chgL sa sb l y) := fun y => by
      rw [show chgL sa sb (r :: l) y = chgR sa sb y r ++ chgL sa sb l y by simp [chgL], wt_append]
    rw [sumN_congr e, sumN_add]
    have h1 := sumN_le (chgR_wt' h · r) ys
    rw [sumN_add] at h1
    have h2 := sumN_one r.y0 hn
    have h3 := sumN_one r.y1 hn
    simp only [List.length_cons]
    omega

theorem chgL_len {sa sb : Int} (h : sa.natAbs + sb.natAbs = 1) (y : Int) : ∀ l : List R, (chgL sa sb l y).length = wt (chgL sa sb l y)
  | [] => rfl
  | r :: l => by
    have e : chgL sa sb (r :: l) y = chgR sa sb y r ++ chgL sa sb l y := by simp [chgL]
    rw [e, wt_append, List.length_append, chgL_len h y l]
    unfold chgR
    split
    · simp [wt]
    · split
      · simp only [wt, Int.natAbs_neg, List.length_cons, List.length_nil]; omega
      · split
        · simp only [wt, Int.natAbs_neg, List.length_cons, List.length_nil]; omega
        · simp [wt]

def sumC (a b : List R) (ys : List Int) : Nat := sumN (fun y => wt (chg a b y)) ys

theorem sumC_le (a b : List R) {ys : List Int} (hn : ys.Nodup) : sumC a b ys ≤ 4 * (a.length + b.length) := by
  unfold sumC
  rw [sumN_congr (g := fun y => wt (chgL 1 0 a y) + wt (chgL 0 1 b y)) (fun y => by unfold chg; rw [wt_append]), sumN_add]
  have h1 := chgL_sum (sa := 1) (sb := 0) rfl hn a
  have h2 := chgL_sum (sa := 0) (sb := 1) rfl hn b
  omega

theorem chg_len (a b : List R) (y : Int) : (chg a b y).length = wt (chg a b y) := by
  unfold chg
  rw [wt_append, List.length_append, chgL_len rfl, chgL_len rfl]

/-- the row at which the sweep stands ahead of its j-th step -/
def rowAt (zs : List Int) : Nat → Int
  | 0 => -20000
  | k + 1 => (zs[k]?).getD 0

theorem cov_out {l : List R} {x y : Int} (h : x < -16384 ∨ 16384 ≤ x ∨ y < -16384 ∨ 16384 ≤ y) : cov l x y = 0 := by
  have h0 := cov_nonneg l x y
  have h1 := cov_in l x y
  have h2 : inL l x y = false := by
    cases e : inL l x y
    · rfl
    · have := inL_inside l x y e
      omega
  rw [h2] at h1
  have h3 := of_decide_eq_false h1
  omega

/-- the edges at the row of the j-th step -/
structure Est (a b : List R) (zs : List Int) (j : Nat) (es : List E) : Prop where
  inc : Inc es
  cnt : ∀ x, cntLe E.a x es = cov a x (rowAt zs j) ∧ cntLe E.b x es = cov b x (rowAt zs j)
  wt : wt es ≤ sumC a b (zs.take j)
  len : es.length ≤ sumC a b (zs.take j)

theorem est_start (a b : List R) (zs : List Int) : Est a b zs 0 [] :=
  ⟨List.Pairwise.nil, fun x => by rw [show rowAt zs 0 = -20000 from rfl, cov_out (by omega), cov_out (by omega)]; exact ⟨rfl, rfl⟩, by simp [Go.Proofs.Ytclnepijbnhdfaa.wt], by simp⟩

theorem clear_at {a b : List R} {j : Nat} {y : Int} (h : (ysP a b)[j]? = some y) : rowAt (ysP a b) j < y ∧ Clear a (rowAt (ysP a b) j) y ∧ Clear b (rowAt (ysP a b) j) y := by
  have hp := ysP_inc a b
  have hp' := List.pairwise_iff_getElem.1 hp
  obtain ⟨hj, hy⟩ := List.getElem?_eq_some_iff.1 h
  have hyin : ∀ z ∈ ysP a b, -16384 ≤ z ∧ z ≤ 16384 := fun z hz => by
    rcases ysP_mem.1 hz with ⟨r, _, he, h⟩ | ⟨r, _, he, h⟩ <;> (have := (emp_no r).1 he; omega)
  have key : rowAt (ysP a b) j < y ∧ ∀ z ∈ ysP a b, z ≤ rowAt (ysP a b) j ∨ y ≤ z := by
    cases j with
    | zero =>
      refine ⟨by have := hyin y (List.mem_of_getElem? h); simp only [rowAt]; omega, fun z hz => .inr ?_⟩
      obtain ⟨i, hi, rfl⟩ := List.getElem_of_mem hz
      by_cases h0 : i = 0
      · subst h0; rw [← hy]; omega
      · have := hp' 0 i hj hi (by omega); rw [← hy]; omega
    | succ k =>
      have hk : k < (ysP a b).length := by omega
      have e : rowAt (ysP a b) (k + 1) = (ysP a b)[k] := by simp only [rowAt]; rw [List.getElem?_eq_getElem hk]; rfl
      rw [e]
      refine ⟨by rw [← hy]; exact hp' k (k + 1) hk hj (by omega), fun z hz => ?_⟩
      obtain ⟨i, hi, rfl⟩ := List.getElem_of_mem hz
      by_cases h0 : i ≤ k
      · by_cases h1 : i = k
        · subst h1; exact .inl (Int.le_refl _)
        · have := hp' i k hi hk (by omega); exact .inl (by omega)
      · by_cases h1 : i = k + 1
        · subst h1; rw [← hy]; exact .inr (Int.le_refl _)
        · have := hp' (k + 1) i hj hi (by omega); rw [← hy]; exact .inr (by omega)
  refine ⟨key.1, fun r hr he => ⟨key.2 _ (ysP_mem.2 (.inl ⟨r, hr, he, .inl rfl⟩)), key.2 _ (ysP_mem.2 (.inl ⟨r, hr, he, .inr rfl⟩))⟩, fun r hr he => ⟨key.2 _ (ysP_mem.2 (.inr ⟨r, hr, he, .inl rfl⟩)), key.2 _ (ysP_mem.2 (.inr ⟨r, hr, he, .inr rfl⟩))⟩⟩

theorem rowAt_next {zs : List Int} {j : Nat} {y : Int} (h : zs[j]? = some y) : rowAt zs (j + 1) = y := by simp only [rowAt]; rw [h]; rfl

theorem Est.next {a b : List R} {j : Nat} {es ch : List E} {y : Int} (h : Est a b (ysP a b) j es) (hy : (ysP a b)[j]? = some y) (hp : ch.Perm (chg a b y)) (hs : ch.Pairwise (fun p q => p.x ≤ q.x)) : Est a b (ysP a b) (j + 1) (addAll [] es ch) := by
  obtain ⟨h1, h2, h3, h4⟩ := addAll_sum h.inc hs
  obtain ⟨ht, ca, cb⟩ := clear_at hy
  have hwt := wt_perm hp
  have hlen := hp.length_eq
  have e : sumC a b ((ysP a b).take (j + 1)) = sumC a b ((ysP a b).take j) + Go.Proofs.Ytclnepijbnhdfaa.wt (chg a b y) := by
    rw [List.take_add_one, hy]
    unfold sumC
    rw [sumN_append]
    simp [sumN]
  refine ⟨h1, fun x => ?_, by rw [e]; have := h.wt; omega, by rw [e]; have := h.len; rw [chg_len] at hlen; omega⟩
  rw [rowAt_next hy]
  have hc := chg_cnt (a := a) (b := b) ht ca cb x
  rw [h2 E.a lin_a x, h2 E.b lin_b x, cntLe_perm hp, cntLe_perm hp, (h.cnt x).1, (h.cnt x).2]
  exact ⟨hc.1.symm, hc.2.symm⟩

theorem Est.runs {op : Op2} (h0 : op false false = false) {a b : List R} {zs : List Int} {j : Nat} {es : List E} (h : Est a b zs j es) : runsGo op es 0 0 none = rrP op a b (rowAt zs j) := by
  have h1 := runs_of_edges h0 h.inc (A := 16384) (fun x hx => by rw [(h.cnt x).1]; exact cov_out (by omega)) (fun x hx => by rw [(h.cnt x).2]; exact cov_out (by omega))
  refine runs_unique (f := fun x => setS op a b x (rowAt zs j)) (h1.congr fun x => ?_) (rrP_ok h0 a b _)
  unfold setS
  rw [(h.cnt x).1, (h.cnt x).2, cov_in, cov_in]

/-- the strips that are still to come ahead of the j-th step -/
def restAt (op : Op2) (a b : List R) : Nat → List Band
  | 0 => stripsAt (rrP op a b) (ysP a b) 0
  | k + 1 => stripsAt (rrP op a b) (ysP a b) k

/-- the strips of two lists -/
def stripsL (op : Op2) (a b : List R) : List Band := stripsAt (rrP op a b) (ysP a b) 0

theorem rest_next {op : Op2} (h0 : op false false = false) {a b : List R} {j : Nat} {y : Int} (hy : (ysP a b)[j]? = some y) :
    restAt op a b j = if rrP op a b (rowAt (ysP a b) j) = [] then restAt op a b (j + 1) else (rowAt (ysP a b) j, y, rrP op a b (rowAt (ysP a b) j)) :: restAt op a b (j + 1) := by
  cases j with
  | zero =>
    have e : rrP op a b (rowAt (ysP a b) 0) = [] := by
      refine runs_unique (rrP_ok h0 a b _) (runs_nil fun x => ?_)
      cases e : setS op a b x (rowAt (ysP a b) 0)
      · rfl
      · have := setS_inside h0 a b x _ e
        simp only [rowAt] at this
        omega
    rw [if_pos e]
    rfl
  | succ k =>
    have hk : k < (ysP a b).length := by have := (List.getElem?_eq_some_iff.1 hy).1; omega
    have ht : (ysP a b)[k]? = some (rowAt (ysP a b) (k + 1)) := by simp only [rowAt]; rw [List.getElem?_eq_getElem hk]; rfl
    exact stripsAt_next ht hy

theorem rest_end {op : Op2} {a b : List R} {j : Nat} (h : (ysP a b).length ≤ j) : restAt op a b j = [] := by
  cases j with
  | zero => exact stripsAt_last (by omega)
  | succ k => exact stripsAt_last h

theorem ys_len (a b : List R) : (ysP a b).length ≤ 2 * (a.length + b.length) := by
  unfold ysP
  have h1 := rowsP_len a []
  have h2 := rowsP_len b (rowsP a [])
  simp at h1
  omega

theorem ys_nodup (a b : List R) : (ysP a b).Nodup := (ysP_inc a b).imp (fun h e => by omega)

theorem Est.bound {a b : List R} {j : Nat} {es : List E} (h : Est a b (ysP a b) j es) : Go.Proofs.Ytclnepijbnhdfaa.wt es ≤ 4 * (a.length + b.length) ∧ es.length ≤ 4 * (a.length + b.length) := by
  have h1 := sumC_le a b (ys := (ysP a b).take j) ((ys_nodup a b).sublist (List.take_sublist _ _))
  exact ⟨Nat.le_trans h.wt h1, Nat.le_trans h.len h1⟩

end Go.Proofs.Ytclnepijbnhdfaa
