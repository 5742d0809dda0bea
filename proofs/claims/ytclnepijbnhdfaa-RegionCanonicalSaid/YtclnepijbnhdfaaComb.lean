/-
  How the bands of a region come out of its strips one by one; the strips behind a list of rows.
-/
import Derived.Test.YtclnepijbnhdfaaRefp
namespace Go.Proofs.Ytclnepijbnhdfaa

/-- the bands behind the band at hand -/
def tailC (cur : Band) (L : List Band) : List Band := if cur.2.2 = [] then comps L else comp cur L

theorem bandR_nil (lo hi : Int) : bandR (lo, hi, []) = [] := rfl
theorem bandR_len (b : Band) : (bandR b).length = b.2.2.length := by simp [bandR]
theorem flatB_cons (b : Band) (L : List Band) : flatB (b :: L) = bandR b ++ flatB L := rfl

theorem tailC_start (lo hi : Int) (L : List Band) : tailC (lo, hi, []) L = comps L := by simp [tailC]

theorem tailC_end (cur : Band) : flatB (tailC cur []) = bandR cur := by
  obtain ⟨lo, hi, v⟩ := cur
  unfold tailC
  by_cases h : v = []
  · subst h; simp [comps, flatB, bandR]
  · simp [h, comp, flatB]

theorem tailC_merge {lo y y' : Int} {v : Runs} {L : List Band} (hv : v ≠ []) : tailC (lo, y, v) ((y, y', v) :: L) = tailC (lo, y', v) L := by
  unfold tailC
  simp only [hv, if_false]
  rw [comp, if_pos ⟨rfl, rfl⟩]

theorem tailC_new {cur : Band} {y y' : Int} {v : Runs} {L : List Band} (hv : v ≠ []) (h : ¬ (cur.2.1 = y ∧ cur.2.2 = v)) : flatB (tailC cur ((y, y', v) :: L)) = bandR cur ++ flatB (tailC (y, y', v) L) := by
  obtain ⟨lo, hi, u⟩ := cur
  unfold tailC
  simp only [hv, if_false]
  by_cases hu : u = []
  · subst hu
    simp [comps, bandR]
  · simp only [hu, if_false]
    rw [comp, if_neg h]
    rfl

theorem tailC_gap {cur : Band} {L : List Band} (a b : Int) (h : cur.2.2 ≠ [] → ∀ p ∈ L.head?, cur.2.1 ≠ p.1) : flatB (tailC cur L) = bandR cur ++ flatB (tailC (a, b, []) L) := by
  obtain ⟨lo, hi, u⟩ := cur
  rw [tailC_start]
  unfold tailC
  by_cases hu : u = []
  · subst hu
    simp [bandR]
  · simp only [hu, if_false]
    cases L with
    | nil => simp [comp, comps, flatB]
    | cons p L =>
      obtain ⟨lo', hi', v'⟩ := p
      rw [comp, if_neg (fun e => h hu (lo', hi', v') (by simp) e.1)]
      rfl

/-- a band whose first i rectangles end at y' already -/
def mixB (D : List R) (lo y y' : Int) (v : Runs) (i : Nat) : List R := D ++ ((bandR (lo, y', v)).take i ++ (bandR (lo, y, v)).drop i)

theorem mixB_start (D : List R) (lo y y' : Int) (v : Runs) : mixB D lo y y' v 0 = D ++ bandR (lo, y, v) := by simp [mixB]
theorem mixB_end (D : List R) (lo y y' : Int) (v : Runs) {i : Nat} (h : v.length ≤ i) : mixB D lo y y' v i = D ++ bandR (lo, y', v) := by
  unfold mixB
  rw [List.take_of_length_le (by rw [bandR_len]; exact h), List.drop_eq_nil_of_le (by rw [bandR_len]; exact h), List.append_nil]

theorem mixB_len (D : List R) (lo y y' : Int) (v : Runs) (i : Nat) : (mixB D lo y y' v i).length = D.length + v.length := by
  have h1 := bandR_len (lo, y', v)
  have h2 := bandR_len (lo, y, v)
  simp only at h1 h2
  simp only [mixB, List.length_append, List.length_take, List.length_drop, h1, h2]
  omega

theorem bandR_at {lo hi : Int} {v : Runs} {i : Nat} {p : Int × Int} (h : v[i]? = some p) : (bandR (lo, hi, v))[i]? = some ⟨p.1, lo, p.2, hi⟩ := by simp [bandR, h]

theorem mixB_at {D : List R} {lo y y' : Int} {v : Runs} {i : Nat} {p : Int × Int} (h : v[i]? = some p) : (mixB D lo y y' v i)[D.length + i]? = some ⟨p.1, lo, p.2, y⟩ ∧ (mixB D lo y y' v i).set (D.length + i) ⟨p.1, lo, p.2, y'⟩ = mixB D lo y y' v (i + 1) := by
  have hi := (List.getElem?_eq_some_iff.1 h).1
  have hl : ((bandR (lo, y', v)).take i).length = i := by rw [List.length_take, bandR_len]; simp only; omega
  have hd : (bandR (lo, y, v)).drop i = ⟨p.1, lo, p.2, y⟩ :: (bandR (lo, y, v)).drop (i + 1) := by
    have h2 := bandR_at (lo := lo) (hi := y) h
    obtain ⟨h3, h4⟩ := List.getElem?_eq_some_iff.1 h2
    rw [← h4]
    exact List.drop_eq_getElem_cons h3
  unfold mixB
  constructor
  · rw [List.getElem?_append_right (by omega), List.getElem?_append_right (by omega), hl, hd]
    have e : D.length + i - D.length - i = 0 := by omega
    rw [e]
    rfl
  · rw [List.set_append_right _ _ (by omega), List.set_append_right _ _ (by omega), hl, hd]
    have e : D.length + i - D.length - i = 0 := by omega
    rw [e, List.set_cons_zero, List.take_add_one, bandR_at h]
    simp

theorem stripsY_head {rr : Int → Runs} : ∀ {ys : List Int} {t : Int}, (t :: ys).Pairwise (· < ·) → ∀ p ∈ (stripsY rr t ys).head?, t ≤ p.1
  | [], t, _, p, h => by simp [stripsY] at h
  | y :: ys, t, hp, p, h => by
    obtain ⟨p1, p2⟩ := List.pairwise_cons.1 hp
    unfold stripsY at h
    split at h
    · have := stripsY_head p2 p h
      have := p1 y List.mem_cons_self
      omega
    · simp at h
      rw [← h]
      exact Int.le_refl _

/-- the region, as the reference makes it out of the rows' list -/
def regionP (rr : Int → Runs) : List Int → List R
  | [] => []
  | y :: ys => flatB (comps (stripsY rr y ys))

theorem regionP_ok {op : Op2} (h0 : op false false = false) (a b : List R) {rr : Int → Runs} (hr : ∀ y, RunsOf (fun x => setS op a b x y) (rr y)) {ys : List Int} (hp : ys.Pairwise (· < ·))
    (ha : ∀ r ∈ a, empB r = false → r.y0 ∈ ys ∧ r.y1 ∈ ys) (hb : ∀ r ∈ b, empB r = false → r.y0 ∈ ys ∧ r.y1 ∈ ys) : Region (setS op a b) (regionP rr ys) := by
  obtain ⟨t, ht1, ht2⟩ : ∃ t : Int, t < -16384 ∧ ∀ y ∈ ys, t < y := by
    obtain ⟨B, hB⟩ := low_runs (ys.map fun y => (y, y))
    refine ⟨min B (-16385), by omega, fun y hy => ?_⟩
    have := hB (y, y) (List.mem_map.2 ⟨y, hy, rfl⟩)
    simp only at this
    omega
  have hs := stripsY_strips h0 hr (ys := ys) (t := t) (List.pairwise_cons.2 ⟨ht2, hp⟩) (fun r h he => ⟨.inr (ha r h he).1, .inr (ha r h he).2⟩) (fun r h he => ⟨.inr (hb r h he).1, .inr (hb r h he).2⟩) ht1
  have hz : rr t = [] := runs_unique (hr t) (runs_nil fun x => by
    cases e : setS op a b x t
    · rfl
    · have := setS_inside h0 a b x t e; omega)
  have h := region_of_strips hs
  cases ys with
  | nil => simpa [stripsY, comps, flatB, regionP] using h
  | cons y ys =>
    simp only [stripsY, hz, if_true] at h
    exact h

/-- the rows at which the rectangles of two lists begin or end -/
def ysP (a b : List R) : List Int := rowsP b (rowsP a [])

theorem ysP_inc (a b : List R) : (ysP a b).Pairwise (· < ·) := rowsP_inc (rowsP_inc List.Pairwise.nil)
theorem ysP_mem {a b : List R} {z : Int} : z ∈ ysP a b ↔ (∃ r ∈ a, empB r = false ∧ (z = r.y0 ∨ z = r.y1)) ∨ ∃ r ∈ b, empB r = false ∧ (z = r.y0 ∨ z = r.y1) := by
  simp [ysP, rowsP_mem]

/-- what combined of the reference makes -/
def combP (op : Op2) (a b : List R) : List R := regionP (rrP op a b) (ysP a b)

theorem combP_ok {op : Op2} (h0 : op false false = false) (a b : List R) : Region (setS op a b) (combP op a b) :=
  regionP_ok h0 a b (fun y => rrP_ok h0 a b y) (ysP_inc a b) (fun r h he => ⟨ysP_mem.2 (.inl ⟨r, h, he, .inl rfl⟩), ysP_mem.2 (.inl ⟨r, h, he, .inr rfl⟩)⟩) (fun r h he => ⟨ysP_mem.2 (.inr ⟨r, h, he, .inl rfl⟩), ysP_mem.2 (.inr ⟨r, h, he, .inr rfl⟩)⟩)

end Go.Proofs.Ytclnepijbnhdfaa
