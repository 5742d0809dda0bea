/-
  A canonical region clipped by a rectangle has no more rectangles than before.
-/
import Derived.Test.YthedglfocjljjaaGreatDoorRoi
namespace Go.Proofs.YthedglfocjljjaaGreatDoor.Rgn

/-- the runs clipped to the columns from X to Y -/
def clipR (X Y : Int) : Runs → Runs
  | [] => []
  | (lo, hi) :: l => if max lo X < min hi Y then (max lo X, min hi Y) :: clipR X Y l else clipR X Y l
theorem clipR_len (X Y : Int) : ∀ rs : Runs, (clipR X Y rs).length ≤ rs.length
  | [] => Nat.le_refl _
  | (lo, hi) :: l => by
    have ih := clipR_len X Y l
    unfold clipR
    split <;> simp only [List.length_cons] <;> omega
theorem clipR_can (X Y : Int) : ∀ (rs : Runs) (B : Int) (u : Bool), CanF false B u (withT rs) → CanF false B u (withT (clipR X Y rs))
  | [], _, _, _ => trivial
  | (lo, hi) :: l, B, u, h => by
    obtain ⟨h1, h2, h3, h4, h5⟩ := h
    have ih := clipR_can X Y l hi true h5
    unfold clipR
    split
    · refine ⟨by show B ≤ max lo X; omega, fun e => h2 (by have e : max lo X = B := e; omega), h3, by show max lo X < min hi Y; assumption, ?_⟩
      rcases Int.lt_or_le Y hi with hy | hy
      · exact CanF.mono ih (show min hi Y < hi by omega)
      · rw [show min hi Y = hi by omega]
        exact ih
    · exact CanF.mono ih (by omega)
theorem clipR_val (X Y : Int) : ∀ (rs : Runs) (x : Int), val false (withT (clipR X Y rs)) x = (val false (withT rs) x && (decide (X ≤ x) && decide (x < Y)))
  | [], x => by simp [clipR, withT, val]
  | (lo, hi) :: l, x => by
    have ih := clipR_val X Y l x
    have e1 : val false (withT ((lo, hi) :: l)) x = if lo ≤ x ∧ x < hi then true else val false (withT l) x := rfl
    rw [e1]
    unfold clipR
    split
    · have e2 : val false (withT ((max lo X, min hi Y) :: clipR X Y l)) x = if max lo X ≤ x ∧ x < min hi Y then true else val false (withT (clipR X Y l)) x := rfl
      rw [e2, ih]
      by_cases hin : X ≤ x ∧ x < Y
      · rw [decide_eq_true hin.1, decide_eq_true hin.2]
        by_cases hl : lo ≤ x ∧ x < hi
        · rw [if_pos hl, if_pos (by omega)]; rfl
        · rw [if_neg hl, if_neg (by omega)]
      · have : (decide (X ≤ x) && decide (x < Y)) = false := by
          simp only [Bool.and_eq_false_iff, decide_eq_false_iff_not]
          omega
        rw [this, if_neg (by omega), Bool.and_false, Bool.and_false]
    · rw [ih]
      by_cases hin : X ≤ x ∧ x < Y
      · rw [if_neg (by omega)]
      · have : (decide (X ≤ x) && decide (x < Y)) = false := by
          simp only [Bool.and_eq_false_iff, decide_eq_false_iff_not]
          omega
        rw [this, Bool.and_false, Bool.and_false]
theorem clipR_runs {f : Int → Bool} {rs : Runs} (X Y : Int) (h : RunsOf f rs) : RunsOf (fun x => f x && (decide (X ≤ x) && decide (x < Y))) (clipR X Y rs) := by
  obtain ⟨⟨B, hc⟩, hv⟩ := h
  exact ⟨⟨B, clipR_can X Y rs B false hc⟩, fun x => by rw [clipR_val, hv]⟩

/-- the bands clipped to a rectangle -/
def clipB (X Y Z T : Int) : List Band → List Band
  | [] => []
  | (lo, hi, rs) :: l => if max lo Z < min hi T ∧ clipR X Y rs ≠ [] then (max lo Z, min hi T, clipR X Y rs) :: clipB X Y Z T l else clipB X Y Z T l
theorem flatB_cons_len (b : Band) (l : List Band) : (flatB (b :: l)).length = b.2.2.length + (flatB l).length := by
  unfold flatB
  rw [List.flatMap_cons, List.length_append]
  unfold bandR
  rw [List.length_map]
theorem clipB_len (X Y Z T : Int) : ∀ bs : List Band, (flatB (clipB X Y Z T bs)).length ≤ (flatB bs).length
  | [] => Nat.le_refl _
  | (lo, hi, rs) :: l => by
    have ih := clipB_len X Y Z T l
    have hr := clipR_len X Y rs
    unfold clipB
    split
    · rw [flatB_cons_len, flatB_cons_len]
      show (clipR X Y rs).length + _ ≤ rs.length + _
      omega
    · rw [flatB_cons_len]
      omega
theorem clipB_sort (X Y Z T : Int) : ∀ (bs : List Band) (B : Int), SortF [] B bs → SortF [] B (clipB X Y Z T bs)
  | [], _, _ => trivial
  | (lo, hi, rs) :: l, B, h => by
    obtain ⟨h1, h2, h3, h4⟩ := h
    have ih := clipB_sort X Y Z T l hi h4
    unfold clipB
    split
    · rename_i hc
      exact ⟨by show B ≤ max lo Z; omega, hc.2, hc.1, SortF.mono ih (by show min hi T ≤ hi; omega)⟩
    · exact SortF.mono ih (by omega)
theorem clipB_val (X Y Z T : Int) : ∀ (bs : List Band) (B : Int) (y : Int), SortF [] B bs → val [] (clipB X Y Z T bs) y = if Z ≤ y ∧ y < T then clipR X Y (val [] bs y) else []
  | [], _, y, _ => by simp [clipB, val, clipR]
  | (lo, hi, rs) :: l, B, y, h => by
    obtain ⟨h1, h2, h3, h4⟩ := h
    have ih := clipB_val X Y Z T l hi y h4
    have e1 : val [] ((lo, hi, rs) :: l) y = if lo ≤ y ∧ y < hi then rs else val [] l y := rfl
    have hlow : y < hi → val ([] : Runs) l y = [] := fun hy => val_low h4 hy
    rw [e1]
    unfold clipB
    split
    · rename_i hc
      have e2 : val [] ((max lo Z, min hi T, clipR X Y rs) :: clipB X Y Z T l) y = if max lo Z ≤ y ∧ y < min hi T then clipR X Y rs else val [] (clipB X Y Z T l) y := rfl
      rw [e2, ih]
      by_cases hin : Z ≤ y ∧ y < T
      · rw [if_pos hin, if_pos hin]
        by_cases hl : lo ≤ y ∧ y < hi
        · rw [if_pos hl, if_pos (by omega)]
        · rw [if_neg hl, if_neg (by omega)]
      · rw [if_neg hin, if_neg hin, if_neg (by omega)]
    · rename_i hc
      rw [ih]
      by_cases hin : Z ≤ y ∧ y < T
      · rw [if_pos hin, if_pos hin]
        by_cases hl : lo ≤ y ∧ y < hi
        · rw [if_pos hl, hlow hl.2]
          have : clipR X Y rs = [] := by
            apply Classical.byContradiction
            intro hne
            exact hc ⟨by omega, hne⟩
          rw [this]
          rfl
        · rw [if_neg hl]
      · rw [if_neg hin, if_neg hin]
theorem comp_fewer : ∀ (l : List Band) (c : Band), (flatB (comp c l)).length ≤ (flatB (c :: l)).length
  | [], _ => Nat.le_refl _
  | (lo', hi', v') :: l, (lo, hi, v) => by
    unfold comp
    split
    · rename_i hc
      have ih := comp_fewer l (lo, hi', v)
      rw [flatB_cons_len] at ih
      rw [flatB_cons_len, flatB_cons_len]
      simp only at ih ⊢
      omega
    · have ih := comp_fewer l (lo', hi', v')
      rw [flatB_cons_len, flatB_cons_len, flatB_cons_len]
      rw [flatB_cons_len] at ih
      simp only at ih ⊢
      omega
theorem comps_fewer (l : List Band) : (flatB (comps l)).length ≤ (flatB l).length := by
  cases l with
  | nil => exact Nat.le_refl _
  | cons c l => exact comp_fewer l c
theorem clip_len {S : Int → Int → Bool} {l : List R} (h : Region S l) (X Y Z T : Int) : ∃ m, Region (fun x y => S x y && ((decide (X ≤ x) && decide (x < Y)) && (decide (Z ≤ y) && decide (y < T)))) m ∧ m.length ≤ l.length := by
  obtain ⟨bs, rfl, ⟨B, hc⟩, hv⟩ := h
  refine ⟨flatB (comps (clipB X Y Z T bs)), region_of_strips ⟨⟨B, clipB_sort X Y Z T bs B hc.sort⟩, fun y => ?_⟩, Nat.le_trans (comps_fewer _) (clipB_len X Y Z T bs)⟩
  rw [clipB_val X Y Z T bs B y hc.sort]
  by_cases hin : Z ≤ y ∧ y < T
  · rw [if_pos hin]
    refine (clipR_runs X Y (hv y)).congr fun x => ?_
    show _ = (S x y && ((decide (X ≤ x) && decide (x < Y)) && (decide (Z ≤ y) && decide (y < T))))
    rw [decide_eq_true hin.1, decide_eq_true hin.2, Bool.and_true, Bool.and_true]
  · rw [if_neg hin]
    refine runs_nil fun x => ?_
    have : (decide (Z ≤ y) && decide (y < T)) = false := by
      simp only [Bool.and_eq_false_iff, decide_eq_false_iff_not]
      omega
    show (S x y && ((decide (X ≤ x) && decide (x < Y)) && (decide (Z ≤ y) && decide (y < T)))) = false
    rw [this, Bool.and_false, Bool.and_false]
/-- the intersection of a list with a rectangle has no more rectangles than the list's own region -/
theorem inter_len (l : List R) {a b c d : Int} (hv : vldB ⟨a, b, c, d⟩ = true) : (combP (fun x y => x && y) l [⟨a, b, c, d⟩]).length ≤ (combP (fun x y => x || y) l []).length := by
  have h1 : Region (inL l) (combP (fun x y => x || y) l []) := (combP_ok rfl l []).congr fun x y => by simp [setS, inL]
  obtain ⟨m, hm, hl⟩ := clip_len h1 a c b d
  have h2 : Region (fun x y => inL l x y && ((decide (a ≤ x) && decide (x < c)) && (decide (b ≤ y) && decide (y < d)))) (combP (fun x y => x && y) l [⟨a, b, c, d⟩]) := (combP_ok rfl l [⟨a, b, c, d⟩]).congr fun x y => by
    have e : inL [⟨a, b, c, d⟩] x y = conB ⟨a, b, c, d⟩ x y := by unfold inL; rw [List.any_cons, List.any_nil, Bool.or_false]
    unfold setS
    rw [e]
    unfold conB
    rw [hv]
    simp only [Bool.true_and, Bool.and_assoc]
  rw [region_unique h2 hm]
  exact hl

end Go.Proofs.YthedglfocjljjaaGreatDoor.Rgn
