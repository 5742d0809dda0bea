/-
  What package buffer computes, without the program: valid buffers, positions, images put into images.
-/
import Derived.Test.YtnkbejbpkjkgeaaArit
import Derived.Test.YtnkbejbpkjkgeaaPure
import Derived.Laws.CopyOwn
namespace Go.Proofs.Ytnkbejbpkjkgeaa

instance : DecidableEq Px := fun p q =>
  if h : p.r = q.r ∧ p.g = q.g ∧ p.b = q.b ∧ p.a = q.a then isTrue (px_ext h.1 h.2.1 h.2.2.1 h.2.2.2) else isFalse (fun e => h (by rw [e]; exact ⟨rfl, rfl, rfl, rfl⟩))

/-- the list of f's values at 0, 1, .., n - 1 -/
def tabL {α : Type} (n : Nat) (f : Nat → α) : List α := (List.range n).map f
theorem tab_len {α : Type} (n : Nat) (f : Nat → α) : (tabL n f).length = n := by simp [tabL]
theorem tab_get {α : Type} (n : Nat) (f : Nat → α) (k : Nat) : (tabL n f)[k]? = if k < n then some (f k) else none := by
  unfold tabL
  rw [List.getElem?_map]
  by_cases h : k < n
  · rw [List.getElem?_range h, if_pos h]; rfl
  · rw [List.getElem?_eq_none (by rw [List.length_range]; omega), if_neg h]; rfl
theorem tab_getD (n : Nat) (f : Nat → Px) {k : Nat} (h : k < n) : (tabL n f).getD k zeroPx = f k := by
  rw [List.getD_eq_getElem?_getD, tab_get, if_pos h]; rfl
theorem tab_congr {α : Type} {n : Nat} {f g : Nat → α} (h : ∀ k, k < n → f k = g k) : tabL n f = tabL n g := by
  apply List.ext_getElem?
  intro k
  rw [tab_get, tab_get]
  by_cases hk : k < n
  · rw [if_pos hk, if_pos hk, h k hk]
  · rw [if_neg hk, if_neg hk]
theorem getD_of {l : List Px} {k : Nat} {p : Px} (h : l[k]? = some p) : l.getD k zeroPx = p := by rw [List.getD_eq_getElem?_getD, h]; rfl
theorem get_of {l : List Px} {k : Nat} (h : k < l.length) : l[k]? = some (l.getD k zeroPx) := by
  rw [List.getD_eq_getElem?_getD, List.getElem?_eq_getElem h]; rfl
theorem tab_self (l : List Px) : tabL l.length (fun k => l.getD k zeroPx) = l := by
  apply List.ext_getElem?
  intro k
  rw [tab_get]
  by_cases hk : k < l.length
  · rw [if_pos hk, get_of hk]
  · rw [if_neg hk, List.getElem?_eq_none (by omega)]
theorem eq_of_getD {l m : List Px} (hl : l.length = m.length) (h : ∀ k, k < l.length → l.getD k zeroPx = m.getD k zeroPx) : l = m := by
  rw [← tab_self l, ← tab_self m, ← hl]
  exact tab_congr h

def sizB (a b : Int) : Bool := decide (1 ≤ a ∧ a ≤ 256) && decide (1 ≤ b ∧ b ≤ 256)
def vBuf (a b : Int) (l : List Px) : Bool := sizB a b && decide ((l.length : Int) = a * b) && l.all okPx
theorem siz_iff {a b : Int} : sizB a b = true ↔ (1 ≤ a ∧ a ≤ 256) ∧ (1 ≤ b ∧ b ≤ 256) := by simp [sizB]
theorem vBuf_iff {a b : Int} {l : List Px} : vBuf a b l = true ↔ (1 ≤ a ∧ a ≤ 256) ∧ (1 ≤ b ∧ b ≤ 256) ∧ (l.length : Int) = a * b ∧ l.all okPx = true := by
  simp [vBuf, siz_iff, and_assoc]

/-- a valid buffer, its sizes as natural numbers -/
structure Vld (a b : Nat) (l : List Px) : Prop where
  a1 : 1 ≤ a
  a2 : a ≤ 256
  b1 : 1 ≤ b
  b2 : b ≤ 256
  len : l.length = a * b
  ok : ∀ p ∈ l, okPx p = true

theorem vld_of {a b : Int} {l : List Px} (h : vBuf a b l = true) : ∃ A B : Nat, a = A ∧ b = B ∧ Vld A B l := by
  obtain ⟨h0, h1, h2, h3⟩ := vBuf_iff.1 h
  refine ⟨a.toNat, b.toNat, by omega, by omega, by omega, by omega, by omega, by omega, ?_, fun p hp => List.all_eq_true.1 h3 p hp⟩
  have ea : a = (a.toNat : Int) := by omega
  have eb : b = (b.toNat : Int) := by omega
  rw [ea, eb, ← Int.natCast_mul] at h2
  exact Int.ofNat_inj.1 h2

theorem Vld.vBuf {a b : Nat} {l : List Px} (h : Vld a b l) : vBuf a b l = true := by
  obtain ⟨h1, h2, h3, h4, h5, h6⟩ := h
  refine vBuf_iff.2 ⟨by omega, by omega, by rw [h5, Int.natCast_mul], List.all_eq_true.2 h6⟩

theorem mul_small {a b : Nat} (ha : a ≤ 256) (hb : b ≤ 256) : a * b ≤ 65536 := by
  have := Nat.mul_le_mul ha hb
  omega
theorem Vld.small {a b : Nat} {l : List Px} (h : Vld a b l) : 0 < l.length ∧ l.length ≤ 65536 := by
  have h1 := mul_small h.a2 h.b2
  have h2 := Nat.mul_le_mul h.a1 h.b1
  rw [h.len]
  omega

/-- the index of a position -/
theorem idx_lt {a b x y : Nat} (hx : x < a) (hy : y < b) : y * a + x < a * b := by
  have h1 : (y + 1) * a ≤ b * a := Nat.mul_le_mul_right a hy
  rw [Nat.add_mul, Nat.mul_comm b a] at h1
  omega
theorem idx_mod {a x y : Nat} (hx : x < a) : (y * a + x) % a = x := by
  rw [Nat.add_comm, Nat.add_mul_mod_self_right, Nat.mod_eq_of_lt hx]
theorem idx_div {a x y : Nat} (hx : x < a) : (y * a + x) / a = y := by
  rw [Nat.add_comm, Nat.add_mul_div_right _ _ (by omega), Nat.div_eq_of_lt hx, Nat.zero_add]
theorem idx_of {a : Nat} (k : Nat) : k / a * a + k % a = k := by
  have := Nat.div_add_mod k a
  rw [Nat.mul_comm] at this
  exact this
theorem row_lt {a b k : Nat} (h : k < a * b) : k / a < b := Nat.div_lt_of_lt_mul h
theorem col_lt {a k : Nat} (h : 1 ≤ a) : k % a < a := Nat.mod_lt _ h

/-- the pixel at a position -/
def atB (a b : Int) (l : List Px) (x y : Int) : Px :=
  if sizB a b && (decide (0 ≤ x) && decide (x < a) && (decide (0 ≤ y) && decide (y < b))) && decide (y * a + x < l.length) then l.getD (y * a + x).toNat zeroPx else zeroPx

theorem at_in {a b : Nat} {l : List Px} (h : Vld a b l) {x y : Nat} (hx : x < a) (hy : y < b) : atB a b l x y = l.getD (y * a + x) zeroPx := by
  have hi := idx_lt hx hy
  have hl := h.len
  have e : (y : Int) * a + x = ((y * a + x : Nat) : Int) := by rw [Int.natCast_add, Int.natCast_mul]
  have hs : sizB a b = true := siz_iff.2 ⟨⟨by have := h.a1; omega, by have := h.a2; omega⟩, ⟨by have := h.b1; omega, by have := h.b2; omega⟩⟩
  unfold atB
  rw [hs, e, if_pos, Int.toNat_natCast]
  simp
  omega

def eqB (a b : Int) (l : List Px) (c d : Int) (m : List Px) : Bool := decide (a = c) && decide (b = d) && decide (l = m)
/-! an image put into an image -/

def covB (sa sb : Nat) (x y : Int) (px py : Nat) : Bool := decide (0 ≤ (px : Int) - x ∧ (px : Int) - x < sa ∧ 0 ≤ (py : Int) - y ∧ (py : Int) - y < sb)
theorem cov_iff {sa sb : Nat} {x y : Int} {px py : Nat} : covB sa sb x y px py = true ↔ 0 ≤ (px : Int) - x ∧ (px : Int) - x < sa ∧ 0 ≤ (py : Int) - y ∧ (py : Int) - y < sb := by simp [covB]
theorem cov_no {sa sb : Nat} {x y : Int} {px py : Nat} : covB sa sb x y px py = false ↔ ¬ (0 ≤ (px : Int) - x ∧ (px : Int) - x < sa ∧ 0 ≤ (py : Int) - y ∧ (py : Int) - y < sb) := by simp [covB]

/-- pixel k behind F of the pixel of s that covers it and itself -/
def newP (F : Px → Px → Px) (a : Nat) (l : List Px) (sa sb : Nat) (s : List Px) (x y : Int) (k : Nat) : Px :=
  if covB sa sb x y (k % a) (k / a) then F (s.getD ((((k / a : Nat) : Int) - y).toNat * sa + (((k % a : Nat) : Int) - x).toNat) zeroPx) (l.getD k zeroPx) else l.getD k zeroPx
def putL (F : Px → Px → Px) (a : Nat) (l : List Px) (sa sb : Nat) (s : List Px) (x y : Int) : List Px := tabL l.length (newP F a l sa sb s x y)
/-- the first m pixels are f's, the others l's -/
def doneL (f : Nat → Px) (l : List Px) (m : Nat) : List Px := tabL l.length (fun k => if k < m then f k else l.getD k zeroPx)

theorem done_len (f : Nat → Px) (l : List Px) (m : Nat) : (doneL f l m).length = l.length := tab_len _ _
theorem done_zero (f : Nat → Px) (l : List Px) : doneL f l 0 = l := by
  unfold doneL
  rw [tab_congr (g := fun k => l.getD k zeroPx) (fun k _ => if_neg (by omega)), tab_self]
theorem done_full (f : Nat → Px) {l : List Px} {m : Nat} (h : l.length ≤ m) : doneL f l m = tabL l.length f := tab_congr fun k hk => if_pos (by omega)
theorem done_get (f : Nat → Px) {l : List Px} {m k : Nat} (h : k < l.length) : (doneL f l m)[k]? = some (if k < m then f k else l.getD k zeroPx) := by
  unfold doneL
  rw [tab_get, if_pos h]
theorem done_set (f : Nat → Px) {l : List Px} {m : Nat} (h : m < l.length) : doneL f l (m + 1) = (doneL f l m).set m (f m) := by
  apply List.ext_getElem?
  intro k
  by_cases hk : k < l.length
  · rw [done_get f hk]
    by_cases e : m = k
    · subst e
      rw [List.getElem?_set_self (by rw [done_len]; exact h), if_pos (by omega)]
    · rw [List.getElem?_set_ne e, done_get f hk]
      by_cases h1 : k < m
      · rw [if_pos h1, if_pos (by omega)]
      · rw [if_neg h1, if_neg (by omega)]
  · rw [List.getElem?_eq_none (by rw [done_len]; omega), List.getElem?_eq_none (by rw [List.length_set, done_len]; omega)]
theorem done_skip {f : Nat → Px} {l : List Px} {m n : Nat} (hmn : m ≤ n) (h : ∀ k, m ≤ k → k < n → f k = l.getD k zeroPx) : doneL f l n = doneL f l m := by
  refine tab_congr fun k _ => ?_
  by_cases h1 : k < m
  · rw [if_pos h1, if_pos (by omega)]
  · rw [if_neg h1]
    by_cases h2 : k < n
    · rw [if_pos h2, h k (by omega) h2]
    · rw [if_neg h2]

theorem splice_get {α : Type} (L : List α) (o : Nat) (S : List α) (hfit : o + S.length ≤ L.length) (k : Nat) : (splice L o S)[k]? = if o ≤ k ∧ k < o + S.length then S[k - o]? else L[k]? := by
  unfold splice
  by_cases h0 : k < o
  · rw [List.getElem?_append_left (by rw [List.length_take]; omega), List.getElem?_take_of_lt h0, if_neg (by omega)]
  · rw [List.getElem?_append_right (by rw [List.length_take]; omega), List.length_take, Nat.min_eq_left (by omega)]
    by_cases h1 : k < o + S.length
    · rw [List.getElem?_append_left (by omega), if_pos (by omega)]
    · rw [List.getElem?_append_right (by omega), List.getElem?_drop, if_neg (by omega)]
      congr 1
      omega

/-- one row more -/
theorem done_splice {f : Nat → Px} {l : List Px} {m n o : Nat} {S : List Px} (hmo : m ≤ o) (hon : o + S.length ≤ n) (hn : n ≤ l.length)
    (h0 : ∀ k, m ≤ k → k < n → (k < o ∨ o + S.length ≤ k) → f k = l.getD k zeroPx) (h1 : ∀ j, j < S.length → S.getD j zeroPx = f (o + j)) : doneL f l n = splice (doneL f l m) o S := by
  apply List.ext_getElem?
  intro k
  rw [splice_get _ _ _ (by rw [done_len]; omega)]
  by_cases hk : k < l.length
  · rw [done_get f hk]
    by_cases hc : o ≤ k ∧ k < o + S.length
    · rw [if_pos hc, if_pos (by omega), get_of (by omega), h1 (k - o) (by omega)]
      congr 2
      omega
    · rw [if_neg hc, done_get f hk]
      by_cases h2 : k < m
      · rw [if_pos h2, if_pos (by omega)]
      · rw [if_neg h2]
        by_cases h3 : k < n
        · rw [if_pos h3, h0 k (by omega) h3 (by omega)]
        · rw [if_neg h3]
  · rw [List.getElem?_eq_none (by rw [done_len]; omega), if_neg (by omega), List.getElem?_eq_none (by rw [done_len]; omega)]

/-! the part of the frame that is covered -/

def frR (a b : Nat) : R := ⟨0, 0, a, b⟩
theorem fr_full {a b : Nat} (h1 : 1 ≤ a) (h2 : a ≤ 256) (h3 : 1 ≤ b) (h4 : b ≤ 256) : empB (frR a b) = false := by
  rw [emp_no]
  simp only [frR]
  omega

theorem movI_mid (n d : Int) : movI n d = max (-16384) (min 16384 (n + d)) := by unfold movI nearI; omega

/-- the covered rectangle: zero if nothing is covered -/
theorem cov_rect {a b sa sb : Nat} (ha : 1 ≤ a ∧ a ≤ 256) (hb : 1 ≤ b ∧ b ≤ 256) (hsa : 1 ≤ sa ∧ sa ≤ 256) (hsb : 1 ≤ sb ∧ sb ≤ 256) (x y : Int) :
    (intR (frR a b) (trR (frR sa sb) x y) = zeroR ∧ ∀ px py, px < a → py < b → covB sa sb x y px py = false) ∨
    ∃ x0 x1 y0 y1 : Nat, intR (frR a b) (trR (frR sa sb) x y) = ⟨x0, y0, x1, y1⟩ ∧ x0 < x1 ∧ x1 ≤ a ∧ y0 < y1 ∧ y1 ≤ b ∧ 0 ≤ (x0 : Int) - x ∧ (x1 : Int) - x ≤ sa ∧ 0 ≤ (y0 : Int) - y ∧ (y1 : Int) - y ≤ sb ∧
      ∀ px py, px < a → py < b → (covB sa sb x y px py = true ↔ x0 ≤ px ∧ px < x1 ∧ y0 ≤ py ∧ py < y1) := by
  obtain ⟨ha1, ha2⟩ := ha
  obtain ⟨hb1, hb2⟩ := hb
  obtain ⟨hc1, hc2⟩ := hsa
  obtain ⟨hd1, hd2⟩ := hsb
  have hf := fr_full ha1 ha2 hb1 hb2
  have hs := fr_full hc1 hc2 hd1 hd2
  have ht : trR (frR sa sb) x y = canR ⟨movI 0 x, movI 0 y, movI sa x, movI sb y⟩ := by
    unfold trR
    rw [hs]
    rfl
  rw [ht]
  have e0 := movI_mid 0 x
  have e1 := movI_mid 0 y
  have e2 := movI_mid sa x
  have e3 := movI_mid sb y
  generalize movI 0 x = X0 at *
  generalize movI 0 y = Y0 at *
  generalize movI sa x = X1 at *
  generalize movI sb y = Y1 at *
  by_cases he : empB ⟨X0, Y0, X1, Y1⟩ = true
  · left
    have hz := can_emp he
    rw [hz]
    refine ⟨int_emp_r emp_zero, fun px py hx hy => ?_⟩
    rw [emp_yes] at he
    rw [cov_no]
    simp only at he
    omega
  · have he' : empB ⟨X0, Y0, X1, Y1⟩ = false := by simpa using he
    rw [can_full he', int_full hf he']
    rw [emp_no] at he'
    simp only at he'
    by_cases hq : empB (cutR (frR a b) ⟨X0, Y0, X1, Y1⟩) = true
    · left
      refine ⟨can_emp hq, fun px py hx hy => ?_⟩
      rw [emp_yes] at hq
      rw [cov_no]
      simp only [cutR, frR] at hq
      omega
    · right
      have hq' : empB (cutR (frR a b) ⟨X0, Y0, X1, Y1⟩) = false := by simpa using hq
      rw [can_full hq']
      rw [emp_no] at hq'
      simp only [cutR, frR] at hq' ⊢
      refine ⟨(max 0 X0).toNat, (min (a : Int) X1).toNat, (max 0 Y0).toNat, (min (b : Int) Y1).toNat, ?_, by omega, by omega, by omega, by omega, by omega, by omega, by omega, by omega, fun px py hx hy => ?_⟩
      · refine R.same ?_ ?_ ?_ ?_ <;> (simp only; omega)
      · rw [cov_iff]
        constructor
        · intro h
          omega
        · intro h
          omega

end Go.Proofs.Ytnkbejbpkjkgeaa
