/-
  place of package buffer: an image put into another one, row by row.
-/
import Derived.Test.YtahhcklkcibgoaaHg
import Derived.Test.YtahhcklkcibgoaaLine
import Derived.Test.YtahhcklkcibgoaaInt
import Derived.Test.YtahhcklkcibgoaaTrans
import Derived.Deep.DeepCutAuto
namespace Go.Proofs.Ytahhcklkcibgoaa
open Go.RowKit

/-- a part of a list -/
def segL (s : List Px) (o n : Nat) : List Px := tabL n (fun j => s.getD (o + j) zeroPx)
theorem seg_len (s : List Px) (o n : Nat) : (segL s o n).length = n := tab_len _ _
theorem seg_getD {s : List Px} {o n j : Nat} (h : j < n) : (segL s o n).getD j zeroPx = s.getD (o + j) zeroPx := tab_getD _ _ h
theorem seg_at {w : World} {bs off o n : Nat} {s : List Px} (h : ∀ j p, s[j]? = some p → At4 w bs off j p) (hf : o + n ≤ s.length) : ∀ j p, (segL s o n)[j]? = some p → At4 w bs (off + o * 4) j p := by
  intro j p hj
  unfold segL at hj
  rw [tab_get] at hj
  by_cases hjn : j < n
  · rw [if_pos hjn] at hj
    have h4 := h (o + j) p (by rw [get_of (by omega)]; exact hj)
    unfold At4 at h4 ⊢
    rw [show off + (o + j) * 4 = off + o * 4 + j * 4 by omega] at h4
    exact h4
  · rw [if_neg hjn] at hj
    cases hj
theorem seg_byt {s : List Px} {o n : Nat} (hs : ∀ p ∈ s, Byt p) (hf : o + n ≤ s.length) : ∀ p ∈ segL s o n, Byt p := by
  intro p hp
  obtain ⟨j, hj, rfl⟩ := List.mem_map.1 hp
  rw [List.mem_range] at hj
  exact hs _ (List.mem_of_getElem? (get_of (by omega)))

/-- a line behind F of the line of s and itself -/
def lineL (F : Px → Px → Px) (L s : List Px) (o so n : Nat) : List Px := splice L o (tabL n (fun j => F (s.getD (so + j) zeroPx) (L.getD (o + j) zeroPx)))

theorem line_copy {w : World} {g o n : Nat} {L s : List Px} (hr : RowP w g L) {bs off so : Nat} (hs : ∀ j p, s[j]? = some p → At4 w bs off j p) (hb : bs < w.heap.size) (_ : bs ≠ g) (h0 : 0 < n) (hn : n ≤ 65536) (hfs : so + n ≤ s.length) (hfit : o + n ≤ L.length) (_ : ∀ p ∈ s, Byt p) (_ : ∀ p ∈ L, Byt p) :
    Calls Try.prog 52 #[.slice (some ⟨g, o * 4, none⟩) n n, .slice (some ⟨bs, off + so * 4, none⟩) n n] w fun e w' => e = .returned (.tuple #[]) ∧ RowP w' g (lineL (fun p _ => p) L s o so n) ∧ w.grownBy w' (some g) := by
  have hl := seg_len s so n
  have hsee : Pxs w (.slice (some ⟨bs, off + so * 4, none⟩) (segL s so n).length n) (segL s so n) :=
    ⟨_, _, rfl, by omega, by simp only [maxLen]; omega, fun _ => ⟨bs, off + so * 4, rfl, hb, seg_at hs hfs⟩⟩
  have h := copyRow_any hr hsee hl.symm (by omega) (by omega) (o := o) (c := n)
  rw [hl] at h
  exact h

theorem line_over {w : World} {g o n : Nat} {L s : List Px} (hr : RowP w g L) {bs off so : Nat} (hs : ∀ j p, s[j]? = some p → At4 w bs off j p) (hb : bs < w.heap.size) (hne : bs ≠ g) (_ : 0 < n) (hn : n ≤ 65536) (hfs : so + n ≤ s.length) (hfit : o + n ≤ L.length) (hsb : ∀ p ∈ s, Byt p) (hLb : ∀ p ∈ L, Byt p) :
    Calls Try.prog 56 #[.slice (some ⟨g, o * 4, none⟩) n n, .slice (some ⟨bs, off + so * 4, none⟩) n n] w fun e w' => e = .returned (.tuple #[]) ∧ RowP w' g (lineL overP L s o so n) ∧ w.grownBy w' (some g) := by
  have hl := seg_len s so n
  have h := blendRow_any hr (seg_at hs hfs) hb hne hl.symm (by omega) (seg_byt hsb hfs) hLb (Nat.le_refl _) (Nat.le_refl _) hn (o := o)
  have e : blendL L (segL s so n) o = tabL n (fun j => overP (s.getD (so + j) zeroPx) (L.getD (o + j) zeroPx)) := by
    unfold blendL
    rw [hl]
    exact tab_congr fun k hk => by rw [seg_getD hk]
  rw [e] at h
  exact h

theorem new_byt {F : Px → Px → Px} (hF : ∀ p q, Byt p → Byt q → Byt (F p q)) {a : Nat} {l : List Px} {sa sb : Nat} {s : List Px} {x y : Int} (hl : ∀ p ∈ l, Byt p) (hs : ∀ p ∈ s, Byt p) (k : Nat) (hk : k < l.length) : Byt (newP F a l sa sb s x y k) := by
  have hd := hl _ (List.mem_of_getElem? (get_of hk))
  have hg : ∀ i, Byt (s.getD i zeroPx) := fun i => by
    by_cases h : i < s.length
    · exact hs _ (List.mem_of_getElem? (get_of h))
    · rw [List.getD_eq_getElem?_getD, List.getElem?_eq_none (by omega)]
      exact ⟨by decide, by decide, by decide, by decide⟩
  unfold newP
  split
  · exact hF _ _ (hg _) hd
  · exact hd

theorem done_byt {f : Nat → Px} {l : List Px} {m : Nat} (hl : ∀ p ∈ l, Byt p) (hf : ∀ k, k < l.length → Byt (f k)) : ∀ p ∈ doneL f l m, Byt p := by
  intro p hp
  obtain ⟨k, hk, rfl⟩ := List.mem_map.1 hp
  rw [List.mem_range] at hk
  split
  · exact hf k hk
  · exact hl _ (List.mem_of_getElem? (get_of hk))

/-- the next line of an image -/
theorem line_next {F : Px → Px → Px} {a b sa sb : Nat} {l s : List Px} {x y : Int} {x0 x1 y0 y1 t : Nat} (_ : 1 ≤ a) (hl : l.length = a * b) (hx : x0 < x1) (hxa : x1 ≤ a) (hyb : y1 ≤ b) (ht0 : y0 ≤ t) (ht1 : t < y1)
    (hX0 : 0 ≤ (x0 : Int) - x) (_ : 0 ≤ (y0 : Int) - y)
    (hc : ∀ px py, px < a → py < b → (covB sa sb x y px py = true ↔ x0 ≤ px ∧ px < x1 ∧ y0 ≤ py ∧ py < y1)) :
    doneL (newP F a l sa sb s x y) l ((t + 1) * a) = lineL F (doneL (newP F a l sa sb s x y) l (t * a)) s (t * a + x0) (((t : Int) - y).toNat * sa + ((x0 : Int) - x).toNat) (x1 - x0) := by
  have hta : (t + 1) * a ≤ a * b := by rw [Nat.mul_comm a b]; exact Nat.mul_le_mul_right a (by omega)
  rw [Nat.add_mul, Nat.one_mul] at hta ⊢
  unfold lineL
  refine done_splice (by omega) (by rw [tab_len]; omega) (by omega) (fun k h0 h1 h2 => ?_) (fun j hj => ?_)
  · rw [tab_len] at h2
    obtain ⟨d, rfl⟩ : ∃ d, k = t * a + d := ⟨k - t * a, by omega⟩
    have hm := idx_mod (a := a) (x := d) (y := t) (by omega)
    have hd := idx_div (a := a) (x := d) (y := t) (by omega)
    unfold newP
    rw [hm, hd]
    have hn : covB sa sb x y d t = false := by
      cases hcv : covB sa sb x y d t
      · rfl
      · have := (hc d t (by omega) (by omega)).1 hcv
        omega
    rw [hn]
    simp
  · rw [tab_len] at hj
    rw [tab_getD _ _ hj]
    have hm := idx_mod (a := a) (x := x0 + j) (y := t) (by omega)
    have hd := idx_div (a := a) (x := x0 + j) (y := t) (by omega)
    have hi : t * a + x0 + j = t * a + (x0 + j) := by omega
    have hlt : t * a + (x0 + j) < l.length := by omega
    rw [hi]
    have hold : (doneL (newP F a l sa sb s x y) l (t * a)).getD (t * a + (x0 + j)) zeroPx = l.getD (t * a + (x0 + j)) zeroPx := by
      rw [getD_of (done_get _ hlt), if_neg (by omega)]
    rw [hold]
    unfold newP
    rw [hm, hd]
    have hy : covB sa sb x y (x0 + j) t = true := (hc (x0 + j) t (by omega) (by omega)).2 ⟨by omega, by omega, by omega, by omega⟩
    rw [hy]
    simp only [if_true]
    congr 2
    omega

theorem line_first {F : Px → Px → Px} {a b sa sb : Nat} {l s : List Px} {x y : Int} {x0 x1 y0 y1 : Nat} (ha : 1 ≤ a) (_ : l.length = a * b) (hyb : y0 ≤ b)
    (hc : ∀ px py, px < a → py < b → (covB sa sb x y px py = true ↔ x0 ≤ px ∧ px < x1 ∧ y0 ≤ py ∧ py < y1)) : doneL (newP F a l sa sb s x y) l (y0 * a) = l := by
  have h1 : y0 * a ≤ a * b := by rw [Nat.mul_comm a b]; exact Nat.mul_le_mul_right a hyb
  rw [done_skip (Nat.zero_le _) (fun k _ hk => ?_), done_zero]
  have hd : k / a < y0 := (Nat.div_lt_iff_lt_mul (by omega)).2 hk
  unfold newP
  have hn : covB sa sb x y (k % a) (k / a) = false := by
    cases hcv : covB sa sb x y (k % a) (k / a)
    · rfl
    · have := (hc _ _ (col_lt ha) (row_lt (b := b) (by omega))).1 hcv
      omega
  rw [hn]
  simp

theorem line_last {F : Px → Px → Px} {a b sa sb : Nat} {l s : List Px} {x y : Int} {x0 x1 y0 y1 : Nat} (ha : 1 ≤ a) (hl : l.length = a * b)
    (hc : ∀ px py, px < a → py < b → (covB sa sb x y px py = true ↔ x0 ≤ px ∧ px < x1 ∧ y0 ≤ py ∧ py < y1)) : doneL (newP F a l sa sb s x y) l (y1 * a) = putL F a l sa sb s x y := by
  by_cases hyb : y1 * a ≤ l.length
  · rw [← done_skip (n := l.length) hyb (fun k hk hkl => ?_)]
    · exact done_full _ (Nat.le_refl _)
    · have hd : y1 ≤ k / a := (Nat.le_div_iff_mul_le (by omega)).2 hk
      unfold newP
      have hn : covB sa sb x y (k % a) (k / a) = false := by
        cases hcv : covB sa sb x y (k % a) (k / a)
        · rfl
        · have := (hc _ _ (col_lt ha) (row_lt (b := b) (by omega))).1 hcv
          omega
      rw [hn]
      simp
  · exact done_full _ (by omega)

theorem put_none {F : Px → Px → Px} {a b sa sb : Nat} {l s : List Px} {x y : Int} (ha : 1 ≤ a) (hl : l.length = a * b) (hc : ∀ px py, px < a → py < b → covB sa sb x y px py = false) : putL F a l sa sb s x y = l := by
  unfold putL
  rw [tab_congr (g := fun k => l.getD k zeroPx) (fun k hk => ?_), tab_self]
  unfold newP
  rw [hc _ _ (col_lt ha) (row_lt (b := b) (by omega))]
  simp

end Go.Proofs.Ytahhcklkcibgoaa
